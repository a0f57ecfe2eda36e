/- A walk of the law TurnWhole: where all minutes of the span are there, and the minute asked is. -/
import Derived.Test.YtlhgpeelenelbaaDoorYA
import Derived.Test.YtlhgpeelenelbaaDoorHB
namespace Go.Proofs.YtlhgpeelenelbaaDoor
open Go.RowKit

set_option maxHeartbeats 16000000 in
set_option maxRecDepth 100000 in
theorem whole_all_in (A A' B B' : Option Addr) (k c k' c' l d l' d' : Nat) (lo hi sm mm T1 T2 p : Int) (x4 : Bool) (G1 G2 G3 G4 : List S2) (w : World)
    (F1 : Hid (∀ W, Calls Tryd.prog 15 #[.agg #[.slice A k c, .slice A' k' c']] W fun e w' => e = .returned (.bool true) ∧ Below W.heap.size W w'))
    (F2 : Hid (∀ W, Calls Tryd.prog 15 #[.agg #[.slice B l d, .slice B' l' d']] W fun e w' => e = .returned (.bool true) ∧ Below W.heap.size W w'))
    (F3 : Hid (∀ W, Calls Tryd.prog 58 #[sv2 lo hi] W fun e w' => e = .returned (.bool true) ∧ Below W.heap.size W w'))
    (HS : Hid (∀ W, Calls Tryd.prog 16 #[] W fun e w' => e = .returned (.bool true) ∧ Below W.heap.size W w'))
    (C1 : Hid (∀ W, N3d w (.slice A k c) (.slice A' k' c') (.slice B l d) (.slice B' l' d') (.int .i64 lo) (.int .i64 hi) W → Calls Tryd.prog 38 #[.agg #[.slice A k c, .slice A' k' c'], sv2 lo hi] W fun e w' => ∃ v, e = .returned (.tuple #[v, .int .i64 0]) ∧ RS w'.heap.size v G1 w' ∧ Below W.heap.size W w'))
    (C2 : Hid (∀ W, N3d w (.slice A k c) (.slice A' k' c') (.slice B l d) (.slice B' l' d') (.int .i64 lo) (.int .i64 hi) W → Calls Tryd.prog 40 #[.agg #[.slice A k c, .slice A' k' c'], sv2 lo hi] W fun e w' => ∃ v, e = .returned (.tuple #[v, .int .i64 0]) ∧ RS w'.heap.size v G2 w' ∧ Below W.heap.size W w'))
    (C3 : Hid (∀ W, N3d w (.slice A k c) (.slice A' k' c') (.slice B l d) (.slice B' l' d') (.int .i64 lo) (.int .i64 hi) W → Calls Tryd.prog 59 #[.agg #[.slice A k c, .slice A' k' c'], .agg #[.slice B l d, .slice B' l' d'], sv2 lo hi] W fun e w' => ∃ v, e = .returned (.tuple #[v, .int .i64 0]) ∧ RS w'.heap.size v G3 w' ∧ Below W.heap.size W w'))
    (C4 : Hid (∀ W, N3d w (.slice A k c) (.slice A' k' c') (.slice B l d) (.slice B' l' d') (.int .i64 lo) (.int .i64 hi) W → Calls Tryd.prog 38 #[.agg #[.slice B l d, .slice B' l' d'], sv2 lo hi] W fun e w' => ∃ v, e = .returned (.tuple #[v, .int .i64 0]) ∧ RS w'.heap.size v G4 w' ∧ Below W.heap.size W w'))
    (C5 : Hid (∀ W, N3d w (.slice A k c) (.slice A' k' c') (.slice B l d) (.slice B' l' d') (.int .i64 lo) (.int .i64 hi) W → Calls Tryd.prog 56 #[.agg #[.slice A k c, .slice A' k' c'], sv2 lo hi] W fun e w' => e = .returned (.tuple #[.int .i64 T1, .int .i64 0]) ∧ Below W.heap.size W w'))
    (C6 : Hid (∀ W, N3d w (.slice A k c) (.slice A' k' c') (.slice B l d) (.slice B' l' d') (.int .i64 lo) (.int .i64 hi) W → Calls Tryd.prog 60 #[.agg #[.slice A k c, .slice A' k' c'], sv2 lo hi] W fun e w' => e = .returned (.tuple #[.int .i64 p, .bool true, .int .i64 0]) ∧ Below W.heap.size W w'))
    (HA : Hid (∀ W, N3d w (.slice A k c) (.slice A' k' c') (.slice B l d) (.slice B' l' d') (.int .i64 lo) (.int .i64 hi) W → Calls Tryd.prog 55 #[.agg #[.slice A k c, .slice A' k' c'], .int .i64 mm] W fun e w' => e = .returned (.bool true) ∧ Below W.heap.size W w'))
    (LG1 : Hid (∀ v W, RS W.heap.size v G1 W → Calls Tryd.prog 61 #[v] W fun e w' => e = .returned (.int .i64 T1) ∧ Below W.heap.size W w'))
    (LG2 : Hid (∀ v W, RS W.heap.size v G2 W → Calls Tryd.prog 61 #[v] W fun e w' => e = .returned (.int .i64 T2) ∧ Below W.heap.size W w'))
    (IN1 : Hid (∀ v W, RS W.heap.size v G1 W → Calls Tryd.prog 62 #[v, .int .i64 mm] W fun e w' => e = .returned (.bool true) ∧ Below W.heap.size W w'))
    (IN2 : Hid (∀ v W, RS W.heap.size v G2 W → Calls Tryd.prog 62 #[v, .int .i64 mm] W fun e w' => e = .returned (.bool false) ∧ Below W.heap.size W w'))
    (IN3 : Hid (∀ v W, RS W.heap.size v G3 W → Calls Tryd.prog 62 #[v, .int .i64 mm] W fun e w' => e = .returned (.bool x4) ∧ Below W.heap.size W w'))
    (IN4 : Hid (∀ v W, RS W.heap.size v G4 W → Calls Tryd.prog 62 #[v, .int .i64 mm] W fun e w' => e = .returned (.bool x4) ∧ Below W.heap.size W w'))
    (AP1 : Hid (∀ v W, RS W.heap.size v G1 W → Calls Tryd.prog 63 #[v] W fun e w' => e = .returned (.bool true) ∧ Below W.heap.size W w'))
    (AP2 : Hid (∀ v W, RS W.heap.size v G2 W → Calls Tryd.prog 63 #[v] W fun e w' => e = .returned (.bool true) ∧ Below W.heap.size W w'))
    (AP3 : Hid (∀ v W, RS W.heap.size v G3 W → Calls Tryd.prog 63 #[v] W fun e w' => e = .returned (.bool true) ∧ Below W.heap.size W w'))
    (s0 : 0 ≤ sm) (s1 : sm ≤ 65535) (b0 : 0 ≤ lo) (b1 : lo ≤ hi) (b2 : hi ≤ 1048576) (hT : T1 + T2 = hi - lo + 1) (hmm : mm = lo + sm % (hi - lo + 1))
    (hG : G2 = []) :
    Calls Tryd.prog 12 #[.agg #[.slice A k c, .slice A' k' c'], .agg #[.slice B l d, .slice B' l' d'], sv2 lo hi, .int .u16 sm] w fun e w' => e = .returned (.bool true) ∧ Below w.heap.size w w' := by
  have S0 := Lib.hid (N3d.new (w := w) (v0 := .slice A k c) (v1 := .slice A' k' c') (u0 := .slice B l d) (u1 := .slice B' l' d') (z0 := .int .i64 lo) (z1 := .int .i64 hi) 25 25 49)
  obtain ⟨dx, hdx⟩ : ∃ dx, hi - lo + 1 = dx := ⟨_, rfl⟩
  rw [hdx] at hT hmm
  subst hmm
  have X1 : IntKind.i64.wrap (hi - lo) = hi - lo := IntWalk.i64_in _ (by omega)
  have X2 : IntKind.i64.wrap (hi - lo + 1) = dx := by rw [hdx]; exact IntWalk.i64_in _ (by omega)
  have X3 : IntKind.i64.wrap (T1 + T2) = dx := by rw [hT]; exact IntWalk.i64_in _ (by omega)
  have XA : ¬ dx = 0 := by omega
  have XE : (dx == 0) = false := beq_eq_false_iff_ne.2 (by omega)
  have XB : IntKind.i64.wrap sm = sm := IntWalk.i64_in _ (by omega)
  have XC : sm.tmod dx = sm % dx := Int.tmod_eq_emod_of_nonneg (by omega)
  have XD : 0 ≤ sm % dx := Int.emod_nonneg _ (by omega)
  have XF : sm % dx < dx := Int.emod_lt_of_pos _ (by omega)
  have XG : IntKind.i64.wrap (sm % dx) = sm % dx := IntWalk.i64_in _ (by omega)
  obtain ⟨mm, hmm⟩ : ∃ mm, lo + sm % dx = mm := ⟨_, rfl⟩
  have X9 : IntKind.i64.wrap (lo + sm % dx) = mm := by rw [← hmm]; exact IntWalk.i64_in _ (by omega)
  rw [hmm] at HA IN1 IN2 IN3 IN4
  clear hdx hT XD XF b0 b1 b2 s0 s1 hmm
  have HG := Lib.hid hG
  clear hG
  go_enter Tryd.func12, Tryd.ntmps12
  go_wp2_with fail
  refine (F1.out _).mono ?_
  rintro e w1 ⟨rfl, h1⟩
  have S := Lib.hid (S0.out.below h1)
  clear h1 S0 F1
  obtain ⟨t0, t1, t2, t3, t4, t5, t6, _⟩ := S.out.out
  go_wp2_with fail
  refine (F2.out _).mono ?_
  rintro e w1 ⟨rfl, h1⟩
  have S := Lib.hid (S.out.below h1)
  clear h1 t0 t1 t2 t3 t4 t5 t6 F2
  obtain ⟨t0, t1, t2, t3, t4, t5, t6, _⟩ := S.out.out
  go_wp2_with fail
  refine (F3.out _).mono ?_
  rintro e w1 ⟨rfl, h1⟩
  have S := Lib.hid (S.out.below h1)
  clear h1 t0 t1 t2 t3 t4 t5 t6 F3
  obtain ⟨t0, t1, t2, t3, t4, t5, t6, _⟩ := S.out.out
  go_wp2_with fail
  refine (C1.out _ S.out).mono ?_
  rintro e w3 ⟨v1, rfl, r1, b1⟩
  have S := Lib.hid (S.out.below b1)
  have R1 := Lib.hid r1
  clear r1 b1 t0 t1 t2 t3 t4 t5 t6 C1
  obtain ⟨t0, t1, t2, t3, t4, t5, t6, _⟩ := S.out.out
  go_wp2_with fail
  refine (C2.out _ S.out).mono ?_
  rintro e w3 ⟨v2, rfl, r2, b1⟩
  have S := Lib.hid (S.out.below b1)
  have R1 := Lib.hid (R1.out.later b1)
  rw [HG.out] at r2
  obtain ⟨Q, cq, rfl⟩ : ∃ Q cq, v2 = .slice Q 0 cq := by obtain ⟨Q, cq, rfl, _⟩ := r2; exact ⟨Q, cq, rfl⟩
  rw [← HG.out] at r2
  have R2 := Lib.hid r2
  clear r2 b1 t0 t1 t2 t3 t4 t5 t6 C2
  obtain ⟨t0, t1, t2, t3, t4, t5, t6, _⟩ := S.out.out
  go_wp2_with fail
  refine (C3.out _ S.out).mono ?_
  rintro e w3 ⟨v3, rfl, r3, b1⟩
  have S := Lib.hid (S.out.below b1)
  have R1 := Lib.hid (R1.out.later b1)
  have R2 := Lib.hid (R2.out.later b1)
  have R3 := Lib.hid r3
  clear r3 b1 t0 t1 t2 t3 t4 t5 t6 C3
  obtain ⟨t0, t1, t2, t3, t4, t5, t6, _⟩ := S.out.out
  go_wp2_with fail
  refine (C4.out _ S.out).mono ?_
  rintro e w3 ⟨v4, rfl, r4, b1⟩
  have S := Lib.hid (S.out.below b1)
  have R1 := Lib.hid (R1.out.later b1)
  have R2 := Lib.hid (R2.out.later b1)
  have R3 := Lib.hid (R3.out.later b1)
  have R4 := Lib.hid r4
  clear r4 b1 t0 t1 t2 t3 t4 t5 t6 C4
  obtain ⟨t0, t1, t2, t3, t4, t5, t6, _⟩ := S.out.out
  go_wp2_with fail
  refine (C5.out _ S.out).mono ?_
  rintro e w4 ⟨rfl, b1⟩
  have S := Lib.hid (S.out.below b1)
  have R1 := Lib.hid (R1.out.later b1)
  have R2 := Lib.hid (R2.out.later b1)
  have R3 := Lib.hid (R3.out.later b1)
  have R4 := Lib.hid (R4.out.later b1)
  clear b1 t0 t1 t2 t3 t4 t5 t6 C5
  obtain ⟨t0, t1, t2, t3, t4, t5, t6, _⟩ := S.out.out
  go_wp2_with fail
  refine (C6.out _ S.out).mono ?_
  rintro e w4 ⟨rfl, b1⟩
  have S := Lib.hid (S.out.below b1)
  have R1 := Lib.hid (R1.out.later b1)
  have R2 := Lib.hid (R2.out.later b1)
  have R3 := Lib.hid (R3.out.later b1)
  have R4 := Lib.hid (R4.out.later b1)
  clear b1 t0 t1 t2 t3 t4 t5 t6 C6
  obtain ⟨t0, t1, t2, t3, t4, t5, t6, _⟩ := S.out.out
  go_wp2_with fail
  have S := Lib.hid (S.out.drew)
  have bd : Below w4.heap.size w4 w4.drew := (Below.refl _ _).drew
  have R1 := Lib.hid (R1.out.later bd)
  have R2 := Lib.hid (R2.out.later bd)
  have R3 := Lib.hid (R3.out.later bd)
  have R4 := Lib.hid (R4.out.later bd)
  clear bd
  refine wp_region_held_drew (S := N3 w (.slice A k c) (.slice A' k' c') (.slice B l d) (.slice B' l' d') (.int .i64 lo) (.int .i64 hi)) (by kernel_rfl) ?_ (fun hHeld => ?_)
  · exact N3d.out S.out
  refine takeW (i := 0) (d := some 94) (v := ?_) rfl rfl (by kernel_rfl) (by kernel_rfl) (by kernel_rfl) (fun _ _ _ h => h) (by rfl) ?_ (by assumption) ?_
  rotate_left
  · (intro w hSw; (try dsimp only at hSw); go_simp; try with_reducible rfl)
  try simp only [Act.put, List.setIfInBounds_toArray, List.set_cons_zero, List.set_cons_succ]
  refine takeW (i := 1) (d := some 95) (v := ?_) rfl rfl (by kernel_rfl) (by kernel_rfl) (by kernel_rfl) (fun _ _ _ h => h) (by rfl) ?_ (by assumption) ?_
  rotate_left
  · (intro w hSw; (try dsimp only at hSw); go_simp; try with_reducible rfl)
  try simp only [Act.put, List.setIfInBounds_toArray, List.set_cons_zero, List.set_cons_succ]
  refine takeW (i := 2) (d := some 96) (v := ?_) rfl rfl (by kernel_rfl) (by kernel_rfl) (by kernel_rfl) (fun _ _ _ h => h) (by rfl) ?_ (by assumption) ?_
  rotate_left
  · (intro w hSw; (try dsimp only at hSw); go_simp; try with_reducible rfl)
  try simp only [Act.put, List.setIfInBounds_toArray, List.set_cons_zero, List.set_cons_succ]
  refine takeW (i := 3) (d := some 97) (v := ?_) rfl rfl (by kernel_rfl) (by kernel_rfl) (by kernel_rfl) (fun _ _ _ h => h) (by rfl) ?_ (by assumption) ?_
  rotate_left
  · (intro w hSw; (try dsimp only at hSw); go_simp; try with_reducible rfl)
  try simp only [Act.put, List.setIfInBounds_toArray, List.set_cons_zero, List.set_cons_succ]
  refine takeW (i := 4) (d := some 98) (v := ?_) rfl rfl (by kernel_rfl) (by kernel_rfl) (by kernel_rfl) (fun _ _ _ h => h) (by rfl) ?_ (by assumption) ?_
  rotate_left
  · (intro w hSw; (try dsimp only at hSw); go_simp; try with_reducible rfl)
  try simp only [Act.put, List.setIfInBounds_toArray, List.set_cons_zero, List.set_cons_succ]
  refine takeW (i := 5) (d := some 99) (v := ?_) rfl rfl (by kernel_rfl) (by kernel_rfl) (by kernel_rfl) (fun _ _ _ h => h) (by rfl) ?_ (by assumption) ?_
  rotate_left
  · (intro w hSw; (try dsimp only at hSw); go_simp; try with_reducible rfl)
  try simp only [Act.put, List.setIfInBounds_toArray, List.set_cons_zero, List.set_cons_succ]
  refine takeW (i := 6) (d := some 100) (v := ?_) rfl rfl (by kernel_rfl) (by kernel_rfl) (by kernel_rfl) (fun _ _ _ h => h) (by rfl) ?_ (by assumption) ?_
  rotate_left
  · (intro w hSw; (try dsimp only at hSw); go_simp; try with_reducible rfl)
  try simp only [Act.put, List.setIfInBounds_toArray, List.set_cons_zero, List.set_cons_succ]
  refine takeW (i := 7) (d := some 101) (v := ?_) rfl rfl (by kernel_rfl) (by kernel_rfl) (by kernel_rfl) (fun _ _ _ h => h) (by rfl) ?_ (by assumption) ?_
  rotate_left
  · (intro w hSw; (try dsimp only at hSw); go_simp; try with_reducible rfl)
  try simp only [Act.put, List.setIfInBounds_toArray, List.set_cons_zero, List.set_cons_succ]
  refine takeW (i := 9) (d := some 103) (v := ?_) rfl rfl (by kernel_rfl) (by kernel_rfl) (by kernel_rfl) (fun _ _ _ h => h) (by rfl) ?_ (by assumption) ?_
  rotate_left
  · (intro w hSw; (try dsimp only at hSw); go_simp; try with_reducible rfl)
  try simp only [Act.put, List.setIfInBounds_toArray, List.set_cons_zero, List.set_cons_succ]
  refine wpAnyH_ready (rs := [8]) (by kernel_rfl) (by simp) ?_
  refine AllReadyH.cons rfl (fun K hK => ?_) AllReadyH.nil
  refine ite_intro (by rfl) ?_
  go_simp
  refine (LG1.out _ _ R1.out).mono ?_
  rintro e w4 ⟨rfl, b1⟩
  have S := Lib.hid (S.out.below b1)
  have R1 := Lib.hid (R1.out.later b1)
  have R2 := Lib.hid (R2.out.later b1)
  have R3 := Lib.hid (R3.out.later b1)
  have R4 := Lib.hid (R4.out.later b1)
  clear b1
  refine hK.out _ _ ?_ (fun hHeld => ?_)
  · exact N3d.out S.out
  clear hK K
  try simp only [Act.put, List.setIfInBounds_toArray, List.set_cons_zero, List.set_cons_succ]
  refine takeW (i := 10) (d := some 104) (v := ?_) rfl rfl (by kernel_rfl) (by kernel_rfl) (by kernel_rfl) (fun _ _ _ h => h) (by rfl) ?_ (by assumption) ?_
  rotate_left
  · (intro w hSw; (try dsimp only at hSw); go_simp; try with_reducible rfl)
  try simp only [Act.put, List.setIfInBounds_toArray, List.set_cons_zero, List.set_cons_succ]
  refine takeW (i := 11) (d := some 105) (v := ?_) rfl rfl (by kernel_rfl) (by kernel_rfl) (by kernel_rfl) (fun _ _ _ h => h) (by rfl) ?_ (by assumption) ?_
  rotate_left
  · (intro w hSw; (try dsimp only at hSw); go_simp; try with_reducible rfl)
  try simp only [Act.put, List.setIfInBounds_toArray, List.set_cons_zero, List.set_cons_succ]
  refine takeW (i := 12) (d := some 106) (v := ?_) rfl rfl (by kernel_rfl) (by kernel_rfl) (by kernel_rfl) (fun _ _ _ h => h) (by rfl) ?_ (by assumption) ?_
  rotate_left
  · (intro w hSw; (try dsimp only at hSw); go_simp; try with_reducible rfl)
  try simp only [Act.put, List.setIfInBounds_toArray, List.set_cons_zero, List.set_cons_succ]
  refine takeW (i := 13) (d := some 107) (v := ?_) rfl rfl (by kernel_rfl) (by kernel_rfl) (by kernel_rfl) (fun _ _ _ h => h) (by rfl) ?_ (by assumption) ?_
  rotate_left
  · (intro w hSw; (try dsimp only at hSw); go_simp; try with_reducible rfl)
  try simp only [Act.put, List.setIfInBounds_toArray, List.set_cons_zero, List.set_cons_succ]
  refine takeW (i := 15) (d := some 109) (v := ?_) rfl rfl (by kernel_rfl) (by kernel_rfl) (by kernel_rfl) (fun _ _ _ h => h) (by rfl) ?_ (by assumption) ?_
  rotate_left
  · (intro w hSw; (try dsimp only at hSw); go_simp; try with_reducible rfl)
  try simp only [Act.put, List.setIfInBounds_toArray, List.set_cons_zero, List.set_cons_succ]
  refine takeW (i := 18) (d := some 112) (v := ?_) rfl rfl (by kernel_rfl) (by kernel_rfl) (by kernel_rfl) (fun _ _ _ h => h) (by rfl) ?_ (by assumption) ?_
  rotate_left
  · (intro w hSw; (try dsimp only at hSw); go_simp; try with_reducible rfl)
  try simp only [Act.put, List.setIfInBounds_toArray, List.set_cons_zero, List.set_cons_succ]
  refine takeW (i := 19) (d := some 113) (v := ?_) rfl rfl (by kernel_rfl) (by kernel_rfl) (by kernel_rfl) (fun _ _ _ h => h) (by rfl) ?_ (by assumption) ?_
  rotate_left
  · (intro w hSw; (try dsimp only at hSw); go_simp; try with_reducible rfl)
  try simp only [Act.put, List.setIfInBounds_toArray, List.set_cons_zero, List.set_cons_succ]
  refine takeW (i := 20) (d := some 114) (v := ?_) rfl rfl (by kernel_rfl) (by kernel_rfl) (by kernel_rfl) (fun _ _ _ h => h) (by rfl) ?_ (by assumption) ?_
  rotate_left
  · (intro w hSw; (try dsimp only at hSw); go_simp; try with_reducible rfl)
  try simp only [Act.put, List.setIfInBounds_toArray, List.set_cons_zero, List.set_cons_succ]
  refine takeW (i := 21) (d := some 115) (v := ?_) rfl rfl (by kernel_rfl) (by kernel_rfl) (by kernel_rfl) (fun _ _ _ h => h) (by rfl) ?_ (by assumption) ?_
  rotate_left
  · (intro w hSw; (try dsimp only at hSw); go_simp; try with_reducible rfl)
  try simp only [Act.put, List.setIfInBounds_toArray, List.set_cons_zero, List.set_cons_succ]
  refine takeW (i := 22) (d := some 116) (v := ?_) rfl rfl (by kernel_rfl) (by kernel_rfl) (by kernel_rfl) (fun _ _ _ h => h) (by rfl) ?_ (by assumption) ?_
  rotate_left
  · (intro w hSw; (try dsimp only at hSw); go_simp; try with_reducible rfl)
  try simp only [Act.put, List.setIfInBounds_toArray, List.set_cons_zero, List.set_cons_succ]
  refine takeW (i := 23) (d := some 117) (v := ?_) rfl rfl (by kernel_rfl) (by kernel_rfl) (by kernel_rfl) (fun _ _ _ h => h) (by rfl) ?_ (by assumption) ?_
  rotate_left
  · (intro w hSw; (try dsimp only at hSw); go_simp; try with_reducible rfl)
  try simp only [Act.put, List.setIfInBounds_toArray, List.set_cons_zero, List.set_cons_succ]
  refine wpAnyH_ready (rs := [14]) (by kernel_rfl) (by simp) ?_
  refine AllReadyH.cons rfl (fun K hK => ?_) AllReadyH.nil
  refine ite_intro (by rfl) ?_
  go_simp
  refine (LG1.out _ _ R1.out).mono ?_
  rintro e w4 ⟨rfl, b1⟩
  have S := Lib.hid (S.out.below b1)
  have R1 := Lib.hid (R1.out.later b1)
  have R2 := Lib.hid (R2.out.later b1)
  have R3 := Lib.hid (R3.out.later b1)
  have R4 := Lib.hid (R4.out.later b1)
  clear b1
  refine hK.out _ _ ?_ (fun hHeld => ?_)
  · exact N3d.out S.out
  clear hK K
  try simp only [Act.put, List.setIfInBounds_toArray, List.set_cons_zero, List.set_cons_succ]
  refine wpAnyH_ready (rs := [16]) (by kernel_rfl) (by simp) ?_
  refine AllReadyH.cons rfl (fun K hK => ?_) AllReadyH.nil
  refine ite_intro (by rfl) ?_
  go_simp
  refine (LG2.out _ _ R2.out).mono ?_
  rintro e w4 ⟨rfl, b1⟩
  have S := Lib.hid (S.out.below b1)
  have R1 := Lib.hid (R1.out.later b1)
  have R2 := Lib.hid (R2.out.later b1)
  have R3 := Lib.hid (R3.out.later b1)
  have R4 := Lib.hid (R4.out.later b1)
  clear b1
  refine hK.out _ _ ?_ (fun hHeld => ?_)
  · exact N3d.out S.out
  clear hK K
  try simp only [Act.put, List.setIfInBounds_toArray, List.set_cons_zero, List.set_cons_succ]
  refine takeW (i := 17) (d := some 111) (v := ?_) rfl rfl (by kernel_rfl) (by kernel_rfl) (by kernel_rfl) (fun _ _ _ h => h) (by rfl) ?_ (by assumption) ?_
  rotate_left
  · (intro w hSw; (try dsimp only at hSw); go_simp; try with_reducible rfl)
  try simp only [Act.put, List.setIfInBounds_toArray, List.set_cons_zero, List.set_cons_succ]
  refine takeW (i := 24) (d := some 118) (v := ?_) rfl rfl (by kernel_rfl) (by kernel_rfl) (by kernel_rfl) (fun _ _ _ h => h) (by rfl) ?_ (by assumption) ?_
  rotate_left
  · (intro w hSw; (try dsimp only at hSw); go_simp; try with_reducible rfl)
  try simp only [Act.put, List.setIfInBounds_toArray, List.set_cons_zero, List.set_cons_succ]
  refine takeW (i := 25) (d := some 119) (v := ?_) rfl rfl (by kernel_rfl) (by kernel_rfl) (by kernel_rfl) (fun _ _ _ h => h) (by rfl) ?_ (by assumption) ?_
  rotate_left
  · (intro w hSw; (try dsimp only at hSw); go_simp; try with_reducible rfl)
  try simp only [Act.put, List.setIfInBounds_toArray, List.set_cons_zero, List.set_cons_succ]
  refine takeW (i := 26) (d := some 120) (v := ?_) rfl rfl (by kernel_rfl) (by kernel_rfl) (by kernel_rfl) (fun _ _ _ h => h) (by rfl) ?_ (by assumption) ?_
  rotate_left
  · (intro w hSw; (try dsimp only at hSw); go_simp; try with_reducible rfl)
  try simp only [Act.put, List.setIfInBounds_toArray, List.set_cons_zero, List.set_cons_succ]
  refine takeW (i := 27) (d := some 121) (v := ?_) rfl rfl (by kernel_rfl) (by kernel_rfl) (by kernel_rfl) (fun _ _ _ h => h) (by rfl) ?_ (by assumption) ?_
  rotate_left
  · (intro w hSw; (try dsimp only at hSw); go_simp; try with_reducible rfl)
  try simp only [Act.put, List.setIfInBounds_toArray, List.set_cons_zero, List.set_cons_succ]
  refine takeW (i := 28) (d := some 122) (v := ?_) rfl rfl (by kernel_rfl) (by kernel_rfl) (by kernel_rfl) (fun _ _ _ h => h) (by rfl) ?_ (by assumption) ?_
  rotate_left
  · (intro w hSw; (try dsimp only at hSw); go_simp; try with_reducible rfl)
  try simp only [Act.put, List.setIfInBounds_toArray, List.set_cons_zero, List.set_cons_succ]
  refine takeW (i := 29) (d := some 123) (v := ?_) rfl rfl (by kernel_rfl) (by kernel_rfl) (by kernel_rfl) (fun _ _ _ h => h) (by rfl) ?_ (by assumption) ?_
  rotate_left
  · (intro w hSw; (try dsimp only at hSw); go_simp; try with_reducible rfl)
  try simp only [Act.put, List.setIfInBounds_toArray, List.set_cons_zero, List.set_cons_succ]
  refine takeW (i := 30) (d := some 124) (v := ?_) rfl rfl (by kernel_rfl) (by kernel_rfl) (by kernel_rfl) (fun _ _ _ h => h) (by rfl) ?_ (by assumption) ?_
  rotate_left
  · (intro w hSw; (try dsimp only at hSw); go_simp; try with_reducible rfl)
  try simp only [Act.put, List.setIfInBounds_toArray, List.set_cons_zero, List.set_cons_succ]
  refine takeW (i := 31) (d := some 125) (v := ?_) rfl rfl (by kernel_rfl) (by kernel_rfl) (by kernel_rfl) (fun _ _ _ h => h) (by rfl) ?_ (by assumption) ?_
  rotate_left
  · (intro w hSw; (try dsimp only at hSw); go_simp; try with_reducible rfl)
  try simp only [Act.put, List.setIfInBounds_toArray, List.set_cons_zero, List.set_cons_succ]
  refine takeW (i := 32) (d := some 126) (v := ?_) rfl rfl (by kernel_rfl) (by kernel_rfl) (by kernel_rfl) (fun _ _ _ h => h) (by rfl) ?_ (by assumption) ?_
  rotate_left
  · (intro w hSw; (try dsimp only at hSw); go_simp; try with_reducible rfl)
  try simp only [Act.put, List.setIfInBounds_toArray, List.set_cons_zero, List.set_cons_succ]
  refine takeW (i := 33) (d := some 127) (v := ?_) rfl rfl (by kernel_rfl) (by kernel_rfl) (by kernel_rfl) (fun _ _ _ h => h) (by rfl) ?_ (by assumption) ?_
  rotate_left
  · (intro w hSw; (try dsimp only at hSw); go_simp; try with_reducible rfl)
  try simp only [Act.put, List.setIfInBounds_toArray, List.set_cons_zero, List.set_cons_succ]
  refine takeW (i := 34) (d := some 128) (v := ?_) rfl rfl (by kernel_rfl) (by kernel_rfl) (by kernel_rfl) (fun _ _ _ h => h) (by rfl) ?_ (by assumption) ?_
  rotate_left
  · (intro w hSw; (try dsimp only at hSw); go_simp; try with_reducible rfl)
  try simp only [Act.put, List.setIfInBounds_toArray, List.set_cons_zero, List.set_cons_succ]
  refine takeW (i := 35) (d := some 129) (v := ?_) rfl rfl (by kernel_rfl) (by kernel_rfl) (by kernel_rfl) (fun _ _ _ h => h) (by rfl) ?_ (by assumption) ?_
  rotate_left
  · (intro w hSw; (try dsimp only at hSw); go_simp; try with_reducible rfl)
  try simp only [Act.put, List.setIfInBounds_toArray, List.set_cons_zero, List.set_cons_succ]
  refine takeW (i := 36) (d := some 130) (v := ?_) rfl rfl (by kernel_rfl) (by kernel_rfl) (by kernel_rfl) (fun _ _ _ h => h) (by rfl) ?_ (by assumption) ?_
  rotate_left
  · (intro w hSw; (try dsimp only at hSw); go_simp; try with_reducible rfl)
  try simp only [Act.put, List.setIfInBounds_toArray, List.set_cons_zero, List.set_cons_succ]
  refine skipW (i := 37) (d := some 131) rfl rfl (by kernel_rfl) (by kernel_rfl) (by kernel_rfl) (fun _ _ _ h => h) (by rfl) (by assumption) ?_
  try simp only [Act.put, List.setIfInBounds_toArray, List.set_cons_zero, List.set_cons_succ]
  refine skipW (i := 38) (d := some 132) rfl rfl (by kernel_rfl) (by kernel_rfl) (by kernel_rfl) (fun _ _ _ h => h) (by rfl) (by assumption) ?_
  try simp only [Act.put, List.setIfInBounds_toArray, List.set_cons_zero, List.set_cons_succ]
  refine skipW (i := 39) (d := some 133) rfl rfl (by kernel_rfl) (by kernel_rfl) (by kernel_rfl) (fun _ _ _ h => h) (by rfl) (by assumption) ?_
  try simp only [Act.put, List.setIfInBounds_toArray, List.set_cons_zero, List.set_cons_succ]
  refine skipW (i := 40) (d := some 134) rfl rfl (by kernel_rfl) (by kernel_rfl) (by kernel_rfl) (fun _ _ _ h => h) (by rfl) (by assumption) ?_
  try simp only [Act.put, List.setIfInBounds_toArray, List.set_cons_zero, List.set_cons_succ]
  refine skipW (i := 41) (d := some 135) rfl rfl (by kernel_rfl) (by kernel_rfl) (by kernel_rfl) (fun _ _ _ h => h) (by rfl) (by assumption) ?_
  try simp only [Act.put, List.setIfInBounds_toArray, List.set_cons_zero, List.set_cons_succ]
  refine skipW (i := 42) (d := some 136) rfl rfl (by kernel_rfl) (by kernel_rfl) (by kernel_rfl) (fun _ _ _ h => h) (by rfl) (by assumption) ?_
  try simp only [Act.put, List.setIfInBounds_toArray, List.set_cons_zero, List.set_cons_succ]
  refine takeW (i := 43) (d := some 137) (v := ?_) rfl rfl (by kernel_rfl) (by kernel_rfl) (by kernel_rfl) (fun _ _ _ h => h) (by rfl) ?_ (by assumption) ?_
  rotate_left
  · (intro w hSw; (try dsimp only at hSw); go_simp; try with_reducible rfl)
  try simp only [Act.put, List.setIfInBounds_toArray, List.set_cons_zero, List.set_cons_succ]
  refine takeW (i := 44) (d := some 138) (v := ?_) rfl rfl (by kernel_rfl) (by kernel_rfl) (by kernel_rfl) (fun _ _ _ h => h) (by rfl) ?_ (by assumption) ?_
  rotate_left
  · (intro w hSw; (try dsimp only at hSw); go_simp; try with_reducible rfl)
  try simp only [Act.put, List.setIfInBounds_toArray, List.set_cons_zero, List.set_cons_succ]
  refine wpAnyH_done (by kernel_rfl) ?_ _
  clear t0 t1 t2 t3 t4 t5 t6
  obtain ⟨t0, t1, t2, t3, t4, t5, t6, _⟩ := S.out.out
  go_wp2_with fail
  have S := Lib.hid (S.out.drew)
  have bd : Below w4.heap.size w4 w4.drew := (Below.refl _ _).drew
  have R1 := Lib.hid (R1.out.later bd)
  have R2 := Lib.hid (R2.out.later bd)
  have R3 := Lib.hid (R3.out.later bd)
  have R4 := Lib.hid (R4.out.later bd)
  clear bd
  refine wp_region_held_drew (S := N3 w (.slice A k c) (.slice A' k' c') (.slice B l d) (.slice B' l' d') (.int .i64 lo) (.int .i64 hi)) (by kernel_rfl) ?_ (fun hHeld => ?_)
  · exact N3d.out S.out
  refine takeW (i := 0) (d := some 139) (v := ?_) rfl rfl (by kernel_rfl) (by kernel_rfl) (by kernel_rfl) (fun _ _ _ h => h) (by rfl) ?_ (by assumption) ?_
  rotate_left
  · (intro w hSw; (try dsimp only at hSw); go_simp; try with_reducible rfl)
  try simp only [Act.put, List.setIfInBounds_toArray, List.set_cons_zero, List.set_cons_succ]
  refine takeW (i := 1) (d := some 140) (v := ?_) rfl rfl (by kernel_rfl) (by kernel_rfl) (by kernel_rfl) (fun _ _ _ h => h) (by rfl) ?_ (by assumption) ?_
  rotate_left
  · (intro w hSw; (try dsimp only at hSw); go_simp; try with_reducible rfl)
  try simp only [Act.put, List.setIfInBounds_toArray, List.set_cons_zero, List.set_cons_succ]
  refine takeW (i := 2) (d := some 141) (v := ?_) rfl rfl (by kernel_rfl) (by kernel_rfl) (by kernel_rfl) (fun _ _ _ h => h) (by rfl) ?_ (by assumption) ?_
  rotate_left
  · (intro w hSw; (try dsimp only at hSw); go_simp; try with_reducible rfl)
  try simp only [Act.put, List.setIfInBounds_toArray, List.set_cons_zero, List.set_cons_succ]
  refine takeW (i := 3) (d := some 142) (v := ?_) rfl rfl (by kernel_rfl) (by kernel_rfl) (by kernel_rfl) (fun _ _ _ h => h) (by rfl) ?_ (by assumption) ?_
  rotate_left
  · (intro w hSw; (try dsimp only at hSw); go_simp; try with_reducible rfl)
  try simp only [Act.put, List.setIfInBounds_toArray, List.set_cons_zero, List.set_cons_succ]
  refine takeW (i := 4) (d := some 143) (v := ?_) rfl rfl (by kernel_rfl) (by kernel_rfl) (by kernel_rfl) (fun _ _ _ h => h) (by rfl) ?_ (by assumption) ?_
  rotate_left
  · (intro w hSw; (try dsimp only at hSw); go_simp; try with_reducible rfl)
  try simp only [Act.put, List.setIfInBounds_toArray, List.set_cons_zero, List.set_cons_succ]
  refine takeW (i := 5) (d := some 144) (v := ?_) rfl rfl (by kernel_rfl) (by kernel_rfl) (by kernel_rfl) (fun _ _ _ h => h) (by rfl) ?_ (by assumption) ?_
  rotate_left
  · (intro w hSw; (try dsimp only at hSw); go_simp; try with_reducible rfl)
  try simp only [Act.put, List.setIfInBounds_toArray, List.set_cons_zero, List.set_cons_succ]
  refine takeW (i := 6) (d := some 145) (v := ?_) rfl rfl (by kernel_rfl) (by kernel_rfl) (by kernel_rfl) (fun _ _ _ h => h) (by rfl) ?_ (by assumption) ?_
  rotate_left
  · (intro w hSw; (try dsimp only at hSw); go_simp; try with_reducible rfl)
  try simp only [Act.put, List.setIfInBounds_toArray, List.set_cons_zero, List.set_cons_succ]
  refine takeW (i := 7) (d := some 146) (v := ?_) rfl rfl (by kernel_rfl) (by kernel_rfl) (by kernel_rfl) (fun _ _ _ h => h) (by rfl) ?_ (by assumption) ?_
  rotate_left
  · (intro w hSw; (try dsimp only at hSw); go_simp; try with_reducible rfl)
  try simp only [Act.put, List.setIfInBounds_toArray, List.set_cons_zero, List.set_cons_succ]
  refine takeW (i := 8) (d := some 147) (v := ?_) rfl rfl (by kernel_rfl) (by kernel_rfl) (by kernel_rfl) (fun _ _ _ h => h) (by rfl) ?_ (by assumption) ?_
  rotate_left
  · (intro w hSw; (try dsimp only at hSw); go_simp; try with_reducible rfl)
  try simp only [Act.put, List.setIfInBounds_toArray, List.set_cons_zero, List.set_cons_succ]
  refine takeW (i := 9) (d := some 148) (v := ?_) rfl rfl (by kernel_rfl) (by kernel_rfl) (by kernel_rfl) (fun _ _ _ h => h) (by rfl) ?_ (by assumption) ?_
  rotate_left
  · (intro w hSw; (try dsimp only at hSw); go_simp; try with_reducible rfl)
  try simp only [Act.put, List.setIfInBounds_toArray, List.set_cons_zero, List.set_cons_succ]
  refine takeW (i := 10) (d := some 149) (v := ?_) rfl rfl (by kernel_rfl) (by kernel_rfl) (by kernel_rfl) (fun _ _ _ h => h) (by rfl) ?_ (by assumption) ?_
  rotate_left
  · (intro w hSw; (try dsimp only at hSw); go_simp; try with_reducible rfl)
  try simp only [Act.put, List.setIfInBounds_toArray, List.set_cons_zero, List.set_cons_succ]
  refine takeW (i := 11) (d := some 150) (v := ?_) rfl rfl (by kernel_rfl) (by kernel_rfl) (by kernel_rfl) (fun _ _ _ h => h) (by rfl) ?_ (by assumption) ?_
  rotate_left
  · (intro w hSw; (try dsimp only at hSw); go_simp; try with_reducible rfl)
  try simp only [Act.put, List.setIfInBounds_toArray, List.set_cons_zero, List.set_cons_succ]
  refine takeW (i := 12) (d := some 22) (v := ?_) rfl rfl (by kernel_rfl) (by kernel_rfl) (by kernel_rfl) (fun _ _ _ h => h) (by rfl) ?_ (by assumption) ?_
  rotate_left
  · (intro w hSw; (try dsimp only at hSw); go_simp; try with_reducible rfl)
  try simp only [Act.put, List.setIfInBounds_toArray, List.set_cons_zero, List.set_cons_succ]
  refine wpAnyH_done (by kernel_rfl) ?_ _
  clear t0 t1 t2 t3 t4 t5 t6
  obtain ⟨t0, t1, t2, t3, t4, t5, t6, _⟩ := S.out.out
  go_wp2_with fail
  have S := Lib.hid (S.out.drew)
  have bd : Below w4.drew.heap.size w4.drew w4.drew.drew := (Below.refl _ _).drew
  have R1 := Lib.hid (R1.out.later bd)
  have R2 := Lib.hid (R2.out.later bd)
  have R3 := Lib.hid (R3.out.later bd)
  have R4 := Lib.hid (R4.out.later bd)
  clear bd
  refine wp_region_held_drew (S := N3 w (.slice A k c) (.slice A' k' c') (.slice B l d) (.slice B' l' d') (.int .i64 lo) (.int .i64 hi)) (by kernel_rfl) ?_ (fun hHeld => ?_)
  · exact N3d.out S.out
  refine wpAnyH_ready (rs := [0]) (by kernel_rfl) (by simp) ?_
  refine AllReadyH.cons rfl (fun K hK => ?_) AllReadyH.nil
  refine ite_intro (by rfl) ?_
  go_simp
  refine (HS.out _).mono ?_
  rintro e w4 ⟨rfl, b1⟩
  have S := Lib.hid (S.out.below b1)
  have R1 := Lib.hid (R1.out.later b1)
  have R2 := Lib.hid (R2.out.later b1)
  have R3 := Lib.hid (R3.out.later b1)
  have R4 := Lib.hid (R4.out.later b1)
  clear b1
  refine hK.out _ _ ?_ (fun hHeld => ?_)
  · exact N3d.out S.out
  clear hK K
  try simp only [Act.put, List.setIfInBounds_toArray, List.set_cons_zero, List.set_cons_succ]
  refine takeW (i := 1) (d := some 152) (v := ?_) rfl rfl (by kernel_rfl) (by kernel_rfl) (by kernel_rfl) (fun _ _ _ h => h) (by rfl) ?_ (by assumption) ?_
  rotate_left
  · (intro w hSw; (try dsimp only at hSw); go_simp; try with_reducible rfl)
  try simp only [Act.put, List.setIfInBounds_toArray, List.set_cons_zero, List.set_cons_succ]
  refine takeW (i := 2) (d := some 153) (v := ?_) rfl rfl (by kernel_rfl) (by kernel_rfl) (by kernel_rfl) (fun _ _ _ h => h) (by rfl) ?_ (by assumption) ?_
  rotate_left
  · (intro w hSw; (try dsimp only at hSw); go_simp; try with_reducible rfl)
  try simp only [Act.put, List.setIfInBounds_toArray, List.set_cons_zero, List.set_cons_succ]
  refine takeW (i := 3) (d := some 154) (v := ?_) rfl rfl (by kernel_rfl) (by kernel_rfl) (by kernel_rfl) (fun _ _ _ h => h) (by rfl) ?_ (by assumption) ?_
  rotate_left
  · (intro w hSw; (try dsimp only at hSw); go_simp; try with_reducible rfl)
  try simp only [Act.put, List.setIfInBounds_toArray, List.set_cons_zero, List.set_cons_succ]
  refine takeW (i := 5) (d := some 156) (v := ?_) rfl rfl (by kernel_rfl) (by kernel_rfl) (by kernel_rfl) (fun _ _ _ h => h) (by rfl) ?_ (by assumption) ?_
  rotate_left
  · (intro w hSw; (try dsimp only at hSw); go_simp; try with_reducible rfl)
  try simp only [Act.put, List.setIfInBounds_toArray, List.set_cons_zero, List.set_cons_succ]
  refine takeW (i := 6) (d := some 157) (v := ?_) rfl rfl (by kernel_rfl) (by kernel_rfl) (by kernel_rfl) (fun _ _ _ h => h) (by rfl) ?_ (by assumption) ?_
  rotate_left
  · (intro w hSw; (try dsimp only at hSw); go_simp; try with_reducible rfl)
  try simp only [Act.put, List.setIfInBounds_toArray, List.set_cons_zero, List.set_cons_succ]
  refine wpAnyH_ready (rs := [4]) (by kernel_rfl) (by simp) ?_
  refine AllReadyH.cons rfl (fun K hK => ?_) AllReadyH.nil
  refine ite_intro (by rfl) ?_
  go_simp
  refine (IN1.out _ _ R1.out).mono ?_
  rintro e w4 ⟨rfl, b1⟩
  have S := Lib.hid (S.out.below b1)
  have R1 := Lib.hid (R1.out.later b1)
  have R2 := Lib.hid (R2.out.later b1)
  have R3 := Lib.hid (R3.out.later b1)
  have R4 := Lib.hid (R4.out.later b1)
  clear b1
  refine hK.out _ _ ?_ (fun hHeld => ?_)
  · exact N3d.out S.out
  clear hK K
  try simp only [Act.put, List.setIfInBounds_toArray, List.set_cons_zero, List.set_cons_succ]
  refine wpAnyH_ready (rs := [7]) (by kernel_rfl) (by simp) ?_
  refine AllReadyH.cons rfl (fun K hK => ?_) AllReadyH.nil
  refine ite_intro (by rfl) ?_
  go_simp
  refine (IN2.out _ _ R2.out).mono ?_
  rintro e w4 ⟨rfl, b1⟩
  have S := Lib.hid (S.out.below b1)
  have R1 := Lib.hid (R1.out.later b1)
  have R2 := Lib.hid (R2.out.later b1)
  have R3 := Lib.hid (R3.out.later b1)
  have R4 := Lib.hid (R4.out.later b1)
  clear b1
  refine hK.out _ _ ?_ (fun hHeld => ?_)
  · exact N3d.out S.out
  clear hK K
  try simp only [Act.put, List.setIfInBounds_toArray, List.set_cons_zero, List.set_cons_succ]
  refine takeW (i := 8) (d := some 159) (v := ?_) rfl rfl (by kernel_rfl) (by kernel_rfl) (by kernel_rfl) (fun _ _ _ h => h) (by rfl) ?_ (by assumption) ?_
  rotate_left
  · (intro w hSw; (try dsimp only at hSw); go_simp; try with_reducible rfl)
  try simp only [Act.put, List.setIfInBounds_toArray, List.set_cons_zero, List.set_cons_succ]
  refine takeW (i := 9) (d := some 160) (v := ?_) rfl rfl (by kernel_rfl) (by kernel_rfl) (by kernel_rfl) (fun _ _ _ h => h) (by rfl) ?_ (by assumption) ?_
  rotate_left
  · (intro w hSw; (try dsimp only at hSw); go_simp; try with_reducible rfl)
  try simp only [Act.put, List.setIfInBounds_toArray, List.set_cons_zero, List.set_cons_succ]
  refine takeW (i := 10) (d := some 161) (v := ?_) rfl rfl (by kernel_rfl) (by kernel_rfl) (by kernel_rfl) (fun _ _ _ h => h) (by rfl) ?_ (by assumption) ?_
  rotate_left
  · (intro w hSw; (try dsimp only at hSw); go_simp; try with_reducible rfl)
  try simp only [Act.put, List.setIfInBounds_toArray, List.set_cons_zero, List.set_cons_succ]
  refine takeW (i := 11) (d := some 162) (v := ?_) rfl rfl (by kernel_rfl) (by kernel_rfl) (by kernel_rfl) (fun _ _ _ h => h) (by rfl) ?_ (by assumption) ?_
  rotate_left
  · (intro w hSw; (try dsimp only at hSw); go_simp; try with_reducible rfl)
  try simp only [Act.put, List.setIfInBounds_toArray, List.set_cons_zero, List.set_cons_succ]
  refine takeW (i := 12) (d := some 163) (v := ?_) rfl rfl (by kernel_rfl) (by kernel_rfl) (by kernel_rfl) (fun _ _ _ h => h) (by rfl) ?_ (by assumption) ?_
  rotate_left
  · (intro w hSw; (try dsimp only at hSw); go_simp; try with_reducible rfl)
  try simp only [Act.put, List.setIfInBounds_toArray, List.set_cons_zero, List.set_cons_succ]
  refine takeW (i := 14) (d := some 165) (v := ?_) rfl rfl (by kernel_rfl) (by kernel_rfl) (by kernel_rfl) (fun _ _ _ h => h) (by rfl) ?_ (by assumption) ?_
  rotate_left
  · (intro w hSw; (try dsimp only at hSw); go_simp; try with_reducible rfl)
  try simp only [Act.put, List.setIfInBounds_toArray, List.set_cons_zero, List.set_cons_succ]
  refine takeW (i := 15) (d := some 166) (v := ?_) rfl rfl (by kernel_rfl) (by kernel_rfl) (by kernel_rfl) (fun _ _ _ h => h) (by rfl) ?_ (by assumption) ?_
  rotate_left
  · (intro w hSw; (try dsimp only at hSw); go_simp; try with_reducible rfl)
  try simp only [Act.put, List.setIfInBounds_toArray, List.set_cons_zero, List.set_cons_succ]
  refine wpAnyH_ready (rs := [13]) (by kernel_rfl) (by simp) ?_
  refine AllReadyH.cons rfl (fun K hK => ?_) AllReadyH.nil
  refine ite_intro (by rfl) ?_
  go_simp
  refine (IN1.out _ _ R1.out).mono ?_
  rintro e w4 ⟨rfl, b1⟩
  have S := Lib.hid (S.out.below b1)
  have R1 := Lib.hid (R1.out.later b1)
  have R2 := Lib.hid (R2.out.later b1)
  have R3 := Lib.hid (R3.out.later b1)
  have R4 := Lib.hid (R4.out.later b1)
  clear b1
  refine hK.out _ _ ?_ (fun hHeld => ?_)
  · exact N3d.out S.out
  clear hK K
  try simp only [Act.put, List.setIfInBounds_toArray, List.set_cons_zero, List.set_cons_succ]
  refine wpAnyH_ready (rs := [16]) (by kernel_rfl) (by simp) ?_
  refine AllReadyH.cons rfl (fun K hK => ?_) AllReadyH.nil
  refine ite_intro (by rfl) ?_
  go_simp
  refine (HA.out _ S.out).mono ?_
  rintro e w4 ⟨rfl, b1⟩
  have S := Lib.hid (S.out.below b1)
  have R1 := Lib.hid (R1.out.later b1)
  have R2 := Lib.hid (R2.out.later b1)
  have R3 := Lib.hid (R3.out.later b1)
  have R4 := Lib.hid (R4.out.later b1)
  clear b1
  refine hK.out _ _ ?_ (fun hHeld => ?_)
  · exact N3d.out S.out
  clear hK K
  try simp only [Act.put, List.setIfInBounds_toArray, List.set_cons_zero, List.set_cons_succ]
  refine takeW (i := 17) (d := some 168) (v := ?_) rfl rfl (by kernel_rfl) (by kernel_rfl) (by kernel_rfl) (fun _ _ _ h => h) (by rfl) ?_ (by assumption) ?_
  rotate_left
  · (intro w hSw; (try dsimp only at hSw); go_simp; try with_reducible rfl)
  try simp only [Act.put, List.setIfInBounds_toArray, List.set_cons_zero, List.set_cons_succ]
  refine takeW (i := 18) (d := some 169) (v := ?_) rfl rfl (by kernel_rfl) (by kernel_rfl) (by kernel_rfl) (fun _ _ _ h => h) (by rfl) ?_ (by assumption) ?_
  rotate_left
  · (intro w hSw; (try dsimp only at hSw); go_simp; try with_reducible rfl)
  try simp only [Act.put, List.setIfInBounds_toArray, List.set_cons_zero, List.set_cons_succ]
  refine takeW (i := 19) (d := some 170) (v := ?_) rfl rfl (by kernel_rfl) (by kernel_rfl) (by kernel_rfl) (fun _ _ _ h => h) (by rfl) ?_ (by assumption) ?_
  rotate_left
  · (intro w hSw; (try dsimp only at hSw); go_simp; try with_reducible rfl)
  try simp only [Act.put, List.setIfInBounds_toArray, List.set_cons_zero, List.set_cons_succ]
  refine takeW (i := 20) (d := some 171) (v := ?_) rfl rfl (by kernel_rfl) (by kernel_rfl) (by kernel_rfl) (fun _ _ _ h => h) (by rfl) ?_ (by assumption) ?_
  rotate_left
  · (intro w hSw; (try dsimp only at hSw); go_simp; try with_reducible rfl)
  try simp only [Act.put, List.setIfInBounds_toArray, List.set_cons_zero, List.set_cons_succ]
  refine takeW (i := 21) (d := some 172) (v := ?_) rfl rfl (by kernel_rfl) (by kernel_rfl) (by kernel_rfl) (fun _ _ _ h => h) (by rfl) ?_ (by assumption) ?_
  rotate_left
  · (intro w hSw; (try dsimp only at hSw); go_simp; try with_reducible rfl)
  try simp only [Act.put, List.setIfInBounds_toArray, List.set_cons_zero, List.set_cons_succ]
  refine takeW (i := 23) (d := some 174) (v := ?_) rfl rfl (by kernel_rfl) (by kernel_rfl) (by kernel_rfl) (fun _ _ _ h => h) (by rfl) ?_ (by assumption) ?_
  rotate_left
  · (intro w hSw; (try dsimp only at hSw); go_simp; try with_reducible rfl)
  try simp only [Act.put, List.setIfInBounds_toArray, List.set_cons_zero, List.set_cons_succ]
  refine takeW (i := 24) (d := some 175) (v := ?_) rfl rfl (by kernel_rfl) (by kernel_rfl) (by kernel_rfl) (fun _ _ _ h => h) (by rfl) ?_ (by assumption) ?_
  rotate_left
  · (intro w hSw; (try dsimp only at hSw); go_simp; try with_reducible rfl)
  try simp only [Act.put, List.setIfInBounds_toArray, List.set_cons_zero, List.set_cons_succ]
  refine wpAnyH_ready (rs := [22]) (by kernel_rfl) (by simp) ?_
  refine AllReadyH.cons rfl (fun K hK => ?_) AllReadyH.nil
  refine ite_intro (by rfl) ?_
  go_simp
  refine (IN3.out _ _ R3.out).mono ?_
  rintro e w4 ⟨rfl, b1⟩
  have S := Lib.hid (S.out.below b1)
  have R1 := Lib.hid (R1.out.later b1)
  have R2 := Lib.hid (R2.out.later b1)
  have R3 := Lib.hid (R3.out.later b1)
  have R4 := Lib.hid (R4.out.later b1)
  clear b1
  refine hK.out _ _ ?_ (fun hHeld => ?_)
  · exact N3d.out S.out
  clear hK K
  try simp only [Act.put, List.setIfInBounds_toArray, List.set_cons_zero, List.set_cons_succ]
  refine wpAnyH_ready (rs := [25]) (by kernel_rfl) (by simp) ?_
  refine AllReadyH.cons rfl (fun K hK => ?_) AllReadyH.nil
  refine ite_intro (by rfl) ?_
  go_simp
  refine (IN1.out _ _ R1.out).mono ?_
  rintro e w4 ⟨rfl, b1⟩
  have S := Lib.hid (S.out.below b1)
  have R1 := Lib.hid (R1.out.later b1)
  have R2 := Lib.hid (R2.out.later b1)
  have R3 := Lib.hid (R3.out.later b1)
  have R4 := Lib.hid (R4.out.later b1)
  clear b1
  refine hK.out _ _ ?_ (fun hHeld => ?_)
  · exact N3d.out S.out
  clear hK K
  try simp only [Act.put, List.setIfInBounds_toArray, List.set_cons_zero, List.set_cons_succ]
  refine takeW (i := 26) (d := some 177) (v := ?_) rfl rfl (by kernel_rfl) (by kernel_rfl) (by kernel_rfl) (fun _ _ _ h => h) (by rfl) ?_ (by assumption) ?_
  rotate_left
  · (intro w hSw; (try dsimp only at hSw); go_simp; try with_reducible rfl)
  try simp only [Act.put, List.setIfInBounds_toArray, List.set_cons_zero, List.set_cons_succ]
  refine takeW (i := 27) (d := some 178) (v := ?_) rfl rfl (by kernel_rfl) (by kernel_rfl) (by kernel_rfl) (fun _ _ _ h => h) (by rfl) ?_ (by assumption) ?_
  rotate_left
  · (intro w hSw; (try dsimp only at hSw); go_simp; try with_reducible rfl)
  try simp only [Act.put, List.setIfInBounds_toArray, List.set_cons_zero, List.set_cons_succ]
  refine takeW (i := 28) (d := some 179) (v := ?_) rfl rfl (by kernel_rfl) (by kernel_rfl) (by kernel_rfl) (fun _ _ _ h => h) (by rfl) ?_ (by assumption) ?_
  rotate_left
  · (intro w hSw; (try dsimp only at hSw); go_simp; try with_reducible rfl)
  try simp only [Act.put, List.setIfInBounds_toArray, List.set_cons_zero, List.set_cons_succ]
  refine wpAnyH_ready (rs := [29]) (by kernel_rfl) (by simp) ?_
  refine AllReadyH.cons rfl (fun K hK => ?_) AllReadyH.nil
  refine ite_intro (by rfl) ?_
  go_simp
  refine (IN4.out _ _ R4.out).mono ?_
  rintro e w4 ⟨rfl, b1⟩
  have S := Lib.hid (S.out.below b1)
  have R1 := Lib.hid (R1.out.later b1)
  have R2 := Lib.hid (R2.out.later b1)
  have R3 := Lib.hid (R3.out.later b1)
  have R4 := Lib.hid (R4.out.later b1)
  clear b1
  refine hK.out _ _ ?_ (fun hHeld => ?_)
  · exact N3d.out S.out
  clear hK K
  try simp only [Act.put, List.setIfInBounds_toArray, List.set_cons_zero, List.set_cons_succ]
  refine takeW (i := 30) (d := some 181) (v := ?_) rfl rfl (by kernel_rfl) (by kernel_rfl) (by kernel_rfl) (fun _ _ _ h => h) (by rfl) ?_ (by assumption) ?_
  rotate_left
  · (intro w hSw; (try dsimp only at hSw); go_simp; try with_reducible rfl)
  try simp only [Act.put, List.setIfInBounds_toArray, List.set_cons_zero, List.set_cons_succ]
  refine takeW (i := 31) (d := some 182) (v := ?_) rfl rfl (by kernel_rfl) (by kernel_rfl) (by kernel_rfl) (fun _ _ _ h => h) (by rfl) ?_ (by assumption) ?_
  rotate_left
  · (intro w hSw; (try dsimp only at hSw); go_simp; try with_reducible rfl)
  try simp only [Act.put, List.setIfInBounds_toArray, List.set_cons_zero, List.set_cons_succ]
  refine takeW (i := 32) (d := some 183) (v := ?_) rfl rfl (by kernel_rfl) (by kernel_rfl) (by kernel_rfl) (fun _ _ _ h => h) (by rfl) ?_ (by assumption) ?_
  rotate_left
  · (intro w hSw; (try dsimp only at hSw); go_simp; try with_reducible rfl)
  try simp only [Act.put, List.setIfInBounds_toArray, List.set_cons_zero, List.set_cons_succ]
  refine takeW (i := 33) (d := some 184) (v := ?_) rfl rfl (by kernel_rfl) (by kernel_rfl) (by kernel_rfl) (fun _ _ _ h => h) (by rfl) ?_ (by assumption) ?_
  rotate_left
  · (intro w hSw; (try dsimp only at hSw); go_simp; try with_reducible rfl)
  try simp only [Act.put, List.setIfInBounds_toArray, List.set_cons_zero, List.set_cons_succ]
  refine takeW (i := 34) (d := some 185) (v := ?_) rfl rfl (by kernel_rfl) (by kernel_rfl) (by kernel_rfl) (fun _ _ _ h => h) (by rfl) ?_ (by assumption) ?_
  rotate_left
  · (intro w hSw; (try dsimp only at hSw); go_simp; try with_reducible rfl)
  try simp only [Act.put, List.setIfInBounds_toArray, List.set_cons_zero, List.set_cons_succ]
  refine wpAnyH_ready (rs := [35]) (by kernel_rfl) (by simp) ?_
  refine AllReadyH.cons rfl (fun K hK => ?_) AllReadyH.nil
  refine ite_intro (by rfl) ?_
  go_simp
  refine (AP1.out _ _ R1.out).mono ?_
  rintro e w4 ⟨rfl, b1⟩
  have S := Lib.hid (S.out.below b1)
  have R1 := Lib.hid (R1.out.later b1)
  have R2 := Lib.hid (R2.out.later b1)
  have R3 := Lib.hid (R3.out.later b1)
  have R4 := Lib.hid (R4.out.later b1)
  clear b1
  refine hK.out _ _ ?_ (fun hHeld => ?_)
  · exact N3d.out S.out
  clear hK K
  try simp only [Act.put, List.setIfInBounds_toArray, List.set_cons_zero, List.set_cons_succ]
  refine takeW (i := 36) (d := some 187) (v := ?_) rfl rfl (by kernel_rfl) (by kernel_rfl) (by kernel_rfl) (fun _ _ _ h => h) (by rfl) ?_ (by assumption) ?_
  rotate_left
  · (intro w hSw; (try dsimp only at hSw); go_simp; try with_reducible rfl)
  try simp only [Act.put, List.setIfInBounds_toArray, List.set_cons_zero, List.set_cons_succ]
  refine takeW (i := 37) (d := some 188) (v := ?_) rfl rfl (by kernel_rfl) (by kernel_rfl) (by kernel_rfl) (fun _ _ _ h => h) (by rfl) ?_ (by assumption) ?_
  rotate_left
  · (intro w hSw; (try dsimp only at hSw); go_simp; try with_reducible rfl)
  try simp only [Act.put, List.setIfInBounds_toArray, List.set_cons_zero, List.set_cons_succ]
  refine takeW (i := 38) (d := some 189) (v := ?_) rfl rfl (by kernel_rfl) (by kernel_rfl) (by kernel_rfl) (fun _ _ _ h => h) (by rfl) ?_ (by assumption) ?_
  rotate_left
  · (intro w hSw; (try dsimp only at hSw); go_simp; try with_reducible rfl)
  try simp only [Act.put, List.setIfInBounds_toArray, List.set_cons_zero, List.set_cons_succ]
  refine wpAnyH_ready (rs := [39]) (by kernel_rfl) (by simp) ?_
  refine AllReadyH.cons rfl (fun K hK => ?_) AllReadyH.nil
  refine ite_intro (by rfl) ?_
  go_simp
  refine (AP2.out _ _ R2.out).mono ?_
  rintro e w4 ⟨rfl, b1⟩
  have S := Lib.hid (S.out.below b1)
  have R1 := Lib.hid (R1.out.later b1)
  have R2 := Lib.hid (R2.out.later b1)
  have R3 := Lib.hid (R3.out.later b1)
  have R4 := Lib.hid (R4.out.later b1)
  clear b1
  refine hK.out _ _ ?_ (fun hHeld => ?_)
  · exact N3d.out S.out
  clear hK K
  try simp only [Act.put, List.setIfInBounds_toArray, List.set_cons_zero, List.set_cons_succ]
  refine takeW (i := 40) (d := some 191) (v := ?_) rfl rfl (by kernel_rfl) (by kernel_rfl) (by kernel_rfl) (fun _ _ _ h => h) (by rfl) ?_ (by assumption) ?_
  rotate_left
  · (intro w hSw; (try dsimp only at hSw); go_simp; try with_reducible rfl)
  try simp only [Act.put, List.setIfInBounds_toArray, List.set_cons_zero, List.set_cons_succ]
  refine takeW (i := 41) (d := some 192) (v := ?_) rfl rfl (by kernel_rfl) (by kernel_rfl) (by kernel_rfl) (fun _ _ _ h => h) (by rfl) ?_ (by assumption) ?_
  rotate_left
  · (intro w hSw; (try dsimp only at hSw); go_simp; try with_reducible rfl)
  try simp only [Act.put, List.setIfInBounds_toArray, List.set_cons_zero, List.set_cons_succ]
  refine takeW (i := 42) (d := some 193) (v := ?_) rfl rfl (by kernel_rfl) (by kernel_rfl) (by kernel_rfl) (fun _ _ _ h => h) (by rfl) ?_ (by assumption) ?_
  rotate_left
  · (intro w hSw; (try dsimp only at hSw); go_simp; try with_reducible rfl)
  try simp only [Act.put, List.setIfInBounds_toArray, List.set_cons_zero, List.set_cons_succ]
  refine wpAnyH_ready (rs := [43]) (by kernel_rfl) (by simp) ?_
  refine AllReadyH.cons rfl (fun K hK => ?_) AllReadyH.nil
  refine ite_intro (by rfl) ?_
  go_simp
  refine (AP3.out _ _ R3.out).mono ?_
  rintro e w4 ⟨rfl, b1⟩
  have S := Lib.hid (S.out.below b1)
  have R1 := Lib.hid (R1.out.later b1)
  have R2 := Lib.hid (R2.out.later b1)
  have R3 := Lib.hid (R3.out.later b1)
  have R4 := Lib.hid (R4.out.later b1)
  clear b1
  refine hK.out _ _ ?_ (fun hHeld => ?_)
  · exact N3d.out S.out
  clear hK K
  try simp only [Act.put, List.setIfInBounds_toArray, List.set_cons_zero, List.set_cons_succ]
  refine takeW (i := 44) (d := some 195) (v := ?_) rfl rfl (by kernel_rfl) (by kernel_rfl) (by kernel_rfl) (fun _ _ _ h => h) (by rfl) ?_ (by assumption) ?_
  rotate_left
  · (intro w hSw; (try dsimp only at hSw); go_simp; try with_reducible rfl)
  try simp only [Act.put, List.setIfInBounds_toArray, List.set_cons_zero, List.set_cons_succ]
  refine takeW (i := 45) (d := some 8) (v := ?_) rfl rfl (by kernel_rfl) (by kernel_rfl) (by kernel_rfl) (fun _ _ _ h => h) (by rfl) ?_ (by assumption) ?_
  rotate_left
  · (intro w hSw; (try dsimp only at hSw); go_simp; try with_reducible rfl)
  try simp only [Act.put, List.setIfInBounds_toArray, List.set_cons_zero, List.set_cons_succ]
  refine wpAnyH_done (by kernel_rfl) ?_ _
  go_wp2_with fail
  go_ret
  exact ⟨by simp, S.out.bel⟩

end Go.Proofs.YtlhgpeelenelbaaDoor

/- A walk of the law TurnWhole: where some minute of the span is not there, and the minute asked is. -/
namespace Go.Proofs.YtlhgpeelenelbaaDoor
open Go.RowKit

set_option maxHeartbeats 16000000 in
set_option maxRecDepth 100000 in
theorem whole_some_in (A A' B B' : Option Addr) (k c k' c' l d l' d' : Nat) (lo hi sm mm T1 T2 p : Int) (x4 : Bool) (G1 G2 G3 G4 : List S2) (w : World)
    (F1 : Hid (∀ W, Calls Tryd.prog 15 #[.agg #[.slice A k c, .slice A' k' c']] W fun e w' => e = .returned (.bool true) ∧ Below W.heap.size W w'))
    (F2 : Hid (∀ W, Calls Tryd.prog 15 #[.agg #[.slice B l d, .slice B' l' d']] W fun e w' => e = .returned (.bool true) ∧ Below W.heap.size W w'))
    (F3 : Hid (∀ W, Calls Tryd.prog 58 #[sv2 lo hi] W fun e w' => e = .returned (.bool true) ∧ Below W.heap.size W w'))
    (HS : Hid (∀ W, Calls Tryd.prog 16 #[] W fun e w' => e = .returned (.bool true) ∧ Below W.heap.size W w'))
    (C1 : Hid (∀ W, N3d w (.slice A k c) (.slice A' k' c') (.slice B l d) (.slice B' l' d') (.int .i64 lo) (.int .i64 hi) W → Calls Tryd.prog 38 #[.agg #[.slice A k c, .slice A' k' c'], sv2 lo hi] W fun e w' => ∃ v, e = .returned (.tuple #[v, .int .i64 0]) ∧ RS w'.heap.size v G1 w' ∧ Below W.heap.size W w'))
    (C2 : Hid (∀ W, N3d w (.slice A k c) (.slice A' k' c') (.slice B l d) (.slice B' l' d') (.int .i64 lo) (.int .i64 hi) W → Calls Tryd.prog 40 #[.agg #[.slice A k c, .slice A' k' c'], sv2 lo hi] W fun e w' => ∃ v, e = .returned (.tuple #[v, .int .i64 0]) ∧ RS w'.heap.size v G2 w' ∧ Below W.heap.size W w'))
    (C3 : Hid (∀ W, N3d w (.slice A k c) (.slice A' k' c') (.slice B l d) (.slice B' l' d') (.int .i64 lo) (.int .i64 hi) W → Calls Tryd.prog 59 #[.agg #[.slice A k c, .slice A' k' c'], .agg #[.slice B l d, .slice B' l' d'], sv2 lo hi] W fun e w' => ∃ v, e = .returned (.tuple #[v, .int .i64 0]) ∧ RS w'.heap.size v G3 w' ∧ Below W.heap.size W w'))
    (C4 : Hid (∀ W, N3d w (.slice A k c) (.slice A' k' c') (.slice B l d) (.slice B' l' d') (.int .i64 lo) (.int .i64 hi) W → Calls Tryd.prog 38 #[.agg #[.slice B l d, .slice B' l' d'], sv2 lo hi] W fun e w' => ∃ v, e = .returned (.tuple #[v, .int .i64 0]) ∧ RS w'.heap.size v G4 w' ∧ Below W.heap.size W w'))
    (C5 : Hid (∀ W, N3d w (.slice A k c) (.slice A' k' c') (.slice B l d) (.slice B' l' d') (.int .i64 lo) (.int .i64 hi) W → Calls Tryd.prog 56 #[.agg #[.slice A k c, .slice A' k' c'], sv2 lo hi] W fun e w' => e = .returned (.tuple #[.int .i64 T1, .int .i64 0]) ∧ Below W.heap.size W w'))
    (C6 : Hid (∀ W, N3d w (.slice A k c) (.slice A' k' c') (.slice B l d) (.slice B' l' d') (.int .i64 lo) (.int .i64 hi) W → Calls Tryd.prog 60 #[.agg #[.slice A k c, .slice A' k' c'], sv2 lo hi] W fun e w' => e = .returned (.tuple #[.int .i64 p, .bool false, .int .i64 0]) ∧ Below W.heap.size W w'))
    (HA : Hid (∀ W, N3d w (.slice A k c) (.slice A' k' c') (.slice B l d) (.slice B' l' d') (.int .i64 lo) (.int .i64 hi) W → Calls Tryd.prog 55 #[.agg #[.slice A k c, .slice A' k' c'], .int .i64 mm] W fun e w' => e = .returned (.bool true) ∧ Below W.heap.size W w'))
    (LG1 : Hid (∀ v W, RS W.heap.size v G1 W → Calls Tryd.prog 61 #[v] W fun e w' => e = .returned (.int .i64 T1) ∧ Below W.heap.size W w'))
    (LG2 : Hid (∀ v W, RS W.heap.size v G2 W → Calls Tryd.prog 61 #[v] W fun e w' => e = .returned (.int .i64 T2) ∧ Below W.heap.size W w'))
    (IN1 : Hid (∀ v W, RS W.heap.size v G1 W → Calls Tryd.prog 62 #[v, .int .i64 mm] W fun e w' => e = .returned (.bool true) ∧ Below W.heap.size W w'))
    (IN2 : Hid (∀ v W, RS W.heap.size v G2 W → Calls Tryd.prog 62 #[v, .int .i64 mm] W fun e w' => e = .returned (.bool false) ∧ Below W.heap.size W w'))
    (IN3 : Hid (∀ v W, RS W.heap.size v G3 W → Calls Tryd.prog 62 #[v, .int .i64 mm] W fun e w' => e = .returned (.bool x4) ∧ Below W.heap.size W w'))
    (IN4 : Hid (∀ v W, RS W.heap.size v G4 W → Calls Tryd.prog 62 #[v, .int .i64 mm] W fun e w' => e = .returned (.bool x4) ∧ Below W.heap.size W w'))
    (AP1 : Hid (∀ v W, RS W.heap.size v G1 W → Calls Tryd.prog 63 #[v] W fun e w' => e = .returned (.bool true) ∧ Below W.heap.size W w'))
    (AP2 : Hid (∀ v W, RS W.heap.size v G2 W → Calls Tryd.prog 63 #[v] W fun e w' => e = .returned (.bool true) ∧ Below W.heap.size W w'))
    (AP3 : Hid (∀ v W, RS W.heap.size v G3 W → Calls Tryd.prog 63 #[v] W fun e w' => e = .returned (.bool true) ∧ Below W.heap.size W w'))
    (s0 : 0 ≤ sm) (s1 : sm ≤ 65535) (b0 : 0 ≤ lo) (b1 : lo ≤ hi) (b2 : hi ≤ 1048576) (hT : T1 + T2 = hi - lo + 1) (hmm : mm = lo + sm % (hi - lo + 1))
    (x0 : S2) (gl : List S2) (hG : G2 = x0 :: gl) (hp : p = x0.1) :
    Calls Tryd.prog 12 #[.agg #[.slice A k c, .slice A' k' c'], .agg #[.slice B l d, .slice B' l' d'], sv2 lo hi, .int .u16 sm] w fun e w' => e = .returned (.bool true) ∧ Below w.heap.size w w' := by
  have S0 := Lib.hid (N3d.new (w := w) (v0 := .slice A k c) (v1 := .slice A' k' c') (u0 := .slice B l d) (u1 := .slice B' l' d') (z0 := .int .i64 lo) (z1 := .int .i64 hi) 25 25 49)
  obtain ⟨dx, hdx⟩ : ∃ dx, hi - lo + 1 = dx := ⟨_, rfl⟩
  rw [hdx] at hT hmm
  subst hmm
  have X1 : IntKind.i64.wrap (hi - lo) = hi - lo := IntWalk.i64_in _ (by omega)
  have X2 : IntKind.i64.wrap (hi - lo + 1) = dx := by rw [hdx]; exact IntWalk.i64_in _ (by omega)
  have X3 : IntKind.i64.wrap (T1 + T2) = dx := by rw [hT]; exact IntWalk.i64_in _ (by omega)
  have XA : ¬ dx = 0 := by omega
  have XE : (dx == 0) = false := beq_eq_false_iff_ne.2 (by omega)
  have XB : IntKind.i64.wrap sm = sm := IntWalk.i64_in _ (by omega)
  have XC : sm.tmod dx = sm % dx := Int.tmod_eq_emod_of_nonneg (by omega)
  have XD : 0 ≤ sm % dx := Int.emod_nonneg _ (by omega)
  have XF : sm % dx < dx := Int.emod_lt_of_pos _ (by omega)
  have XG : IntKind.i64.wrap (sm % dx) = sm % dx := IntWalk.i64_in _ (by omega)
  obtain ⟨mm, hmm⟩ : ∃ mm, lo + sm % dx = mm := ⟨_, rfl⟩
  have X9 : IntKind.i64.wrap (lo + sm % dx) = mm := by rw [← hmm]; exact IntWalk.i64_in _ (by omega)
  rw [hmm] at HA IN1 IN2 IN3 IN4
  clear hdx hT XD XF b0 b1 b2 s0 s1 hmm
  obtain ⟨x01, x02⟩ := x0
  simp only at hp
  subst hp
  have HG := Lib.hid hG
  clear hG
  go_enter Tryd.func12, Tryd.ntmps12
  go_wp2_with fail
  refine (F1.out _).mono ?_
  rintro e w1 ⟨rfl, h1⟩
  have S := Lib.hid (S0.out.below h1)
  clear h1 S0 F1
  obtain ⟨t0, t1, t2, t3, t4, t5, t6, _⟩ := S.out.out
  go_wp2_with fail
  refine (F2.out _).mono ?_
  rintro e w1 ⟨rfl, h1⟩
  have S := Lib.hid (S.out.below h1)
  clear h1 t0 t1 t2 t3 t4 t5 t6 F2
  obtain ⟨t0, t1, t2, t3, t4, t5, t6, _⟩ := S.out.out
  go_wp2_with fail
  refine (F3.out _).mono ?_
  rintro e w1 ⟨rfl, h1⟩
  have S := Lib.hid (S.out.below h1)
  clear h1 t0 t1 t2 t3 t4 t5 t6 F3
  obtain ⟨t0, t1, t2, t3, t4, t5, t6, _⟩ := S.out.out
  go_wp2_with fail
  refine (C1.out _ S.out).mono ?_
  rintro e w3 ⟨v1, rfl, r1, b1⟩
  have S := Lib.hid (S.out.below b1)
  have R1 := Lib.hid r1
  clear r1 b1 t0 t1 t2 t3 t4 t5 t6 C1
  obtain ⟨t0, t1, t2, t3, t4, t5, t6, _⟩ := S.out.out
  go_wp2_with fail
  refine (C2.out _ S.out).mono ?_
  rintro e w3 ⟨v2, rfl, r2, b1⟩
  have S := Lib.hid (S.out.below b1)
  have R1 := Lib.hid (R1.out.later b1)
  rw [HG.out] at r2
  obtain ⟨bb, oo, nb, cq, rfl, hnb, hbb, hcell⟩ := RS.head r2
  have HC := Lib.hid (And.intro hbb hcell)
  have hnb0 : ((nb : Int) == 0) = false := beq_eq_false_iff_ne.2 (by omega)
  have hnbN : 0 < nb := by omega
  clear hbb hcell
  rw [← HG.out] at r2
  have R2 := Lib.hid r2
  clear r2 b1 t0 t1 t2 t3 t4 t5 t6 C2
  obtain ⟨t0, t1, t2, t3, t4, t5, t6, _⟩ := S.out.out
  go_wp2_with fail
  refine (C3.out _ S.out).mono ?_
  rintro e w3 ⟨v3, rfl, r3, b1⟩
  have S := Lib.hid (S.out.below b1)
  have R1 := Lib.hid (R1.out.later b1)
  have R2 := Lib.hid (R2.out.later b1)
  have HC := Lib.hid (And.intro (Nat.lt_of_lt_of_le HC.out.1 b1.size) ((b1.cell (p := ⟨bb, oo, none⟩) HC.out.1).trans HC.out.2))
  have R3 := Lib.hid r3
  clear r3 b1 t0 t1 t2 t3 t4 t5 t6 C3
  obtain ⟨t0, t1, t2, t3, t4, t5, t6, _⟩ := S.out.out
  go_wp2_with fail
  refine (C4.out _ S.out).mono ?_
  rintro e w3 ⟨v4, rfl, r4, b1⟩
  have S := Lib.hid (S.out.below b1)
  have R1 := Lib.hid (R1.out.later b1)
  have R2 := Lib.hid (R2.out.later b1)
  have R3 := Lib.hid (R3.out.later b1)
  have HC := Lib.hid (And.intro (Nat.lt_of_lt_of_le HC.out.1 b1.size) ((b1.cell (p := ⟨bb, oo, none⟩) HC.out.1).trans HC.out.2))
  have R4 := Lib.hid r4
  clear r4 b1 t0 t1 t2 t3 t4 t5 t6 C4
  obtain ⟨t0, t1, t2, t3, t4, t5, t6, _⟩ := S.out.out
  go_wp2_with fail
  refine (C5.out _ S.out).mono ?_
  rintro e w4 ⟨rfl, b1⟩
  have S := Lib.hid (S.out.below b1)
  have R1 := Lib.hid (R1.out.later b1)
  have R2 := Lib.hid (R2.out.later b1)
  have R3 := Lib.hid (R3.out.later b1)
  have R4 := Lib.hid (R4.out.later b1)
  have HC := Lib.hid (And.intro (Nat.lt_of_lt_of_le HC.out.1 b1.size) ((b1.cell (p := ⟨bb, oo, none⟩) HC.out.1).trans HC.out.2))
  clear b1 t0 t1 t2 t3 t4 t5 t6 C5
  obtain ⟨t0, t1, t2, t3, t4, t5, t6, _⟩ := S.out.out
  go_wp2_with fail
  refine (C6.out _ S.out).mono ?_
  rintro e w4 ⟨rfl, b1⟩
  have S := Lib.hid (S.out.below b1)
  have R1 := Lib.hid (R1.out.later b1)
  have R2 := Lib.hid (R2.out.later b1)
  have R3 := Lib.hid (R3.out.later b1)
  have R4 := Lib.hid (R4.out.later b1)
  have HC := Lib.hid (And.intro (Nat.lt_of_lt_of_le HC.out.1 b1.size) ((b1.cell (p := ⟨bb, oo, none⟩) HC.out.1).trans HC.out.2))
  clear b1 t0 t1 t2 t3 t4 t5 t6 C6
  obtain ⟨t0, t1, t2, t3, t4, t5, t6, _⟩ := S.out.out
  go_wp2_with fail
  have S := Lib.hid (S.out.drew)
  have bd : Below w4.heap.size w4 w4.drew := (Below.refl _ _).drew
  have R1 := Lib.hid (R1.out.later bd)
  have R2 := Lib.hid (R2.out.later bd)
  have R3 := Lib.hid (R3.out.later bd)
  have R4 := Lib.hid (R4.out.later bd)
  have HC : Hid (bb < w4.drew.heap.size ∧ w4.drew.cell? ⟨bb, oo, none⟩ = some (.int .i64 p)) := Lib.hid HC.out
  clear bd
  refine wp_region_held_drew (S := fun W => N3 w (.slice A k c) (.slice A' k' c') (.slice B l d) (.slice B' l' d') (.int .i64 lo) (.int .i64 hi) W ∧ W.cell? ⟨bb, oo, none⟩ = some (.int .i64 p)) (by kernel_rfl) ?_ (fun hHeld => ?_)
  · exact ⟨N3d.out S.out, HC.out.2⟩
  refine takeW (i := 0) (d := some 94) (v := ?_) rfl rfl (by kernel_rfl) (by kernel_rfl) (by kernel_rfl) (fun _ _ _ h => h) (by rfl) ?_ (by assumption) ?_
  rotate_left
  · (intro w hSw; (try dsimp only at hSw); go_simp; try with_reducible rfl)
  try simp only [Act.put, List.setIfInBounds_toArray, List.set_cons_zero, List.set_cons_succ]
  refine takeW (i := 1) (d := some 95) (v := ?_) rfl rfl (by kernel_rfl) (by kernel_rfl) (by kernel_rfl) (fun _ _ _ h => h) (by rfl) ?_ (by assumption) ?_
  rotate_left
  · (intro w hSw; (try dsimp only at hSw); go_simp; try with_reducible rfl)
  try simp only [Act.put, List.setIfInBounds_toArray, List.set_cons_zero, List.set_cons_succ]
  refine takeW (i := 2) (d := some 96) (v := ?_) rfl rfl (by kernel_rfl) (by kernel_rfl) (by kernel_rfl) (fun _ _ _ h => h) (by rfl) ?_ (by assumption) ?_
  rotate_left
  · (intro w hSw; (try dsimp only at hSw); go_simp; try with_reducible rfl)
  try simp only [Act.put, List.setIfInBounds_toArray, List.set_cons_zero, List.set_cons_succ]
  refine takeW (i := 3) (d := some 97) (v := ?_) rfl rfl (by kernel_rfl) (by kernel_rfl) (by kernel_rfl) (fun _ _ _ h => h) (by rfl) ?_ (by assumption) ?_
  rotate_left
  · (intro w hSw; (try dsimp only at hSw); go_simp; try with_reducible rfl)
  try simp only [Act.put, List.setIfInBounds_toArray, List.set_cons_zero, List.set_cons_succ]
  refine takeW (i := 4) (d := some 98) (v := ?_) rfl rfl (by kernel_rfl) (by kernel_rfl) (by kernel_rfl) (fun _ _ _ h => h) (by rfl) ?_ (by assumption) ?_
  rotate_left
  · (intro w hSw; (try dsimp only at hSw); go_simp; try with_reducible rfl)
  try simp only [Act.put, List.setIfInBounds_toArray, List.set_cons_zero, List.set_cons_succ]
  refine takeW (i := 5) (d := some 99) (v := ?_) rfl rfl (by kernel_rfl) (by kernel_rfl) (by kernel_rfl) (fun _ _ _ h => h) (by rfl) ?_ (by assumption) ?_
  rotate_left
  · (intro w hSw; (try dsimp only at hSw); go_simp; try with_reducible rfl)
  try simp only [Act.put, List.setIfInBounds_toArray, List.set_cons_zero, List.set_cons_succ]
  refine takeW (i := 6) (d := some 100) (v := ?_) rfl rfl (by kernel_rfl) (by kernel_rfl) (by kernel_rfl) (fun _ _ _ h => h) (by rfl) ?_ (by assumption) ?_
  rotate_left
  · (intro w hSw; (try dsimp only at hSw); go_simp; try with_reducible rfl)
  try simp only [Act.put, List.setIfInBounds_toArray, List.set_cons_zero, List.set_cons_succ]
  refine takeW (i := 7) (d := some 101) (v := ?_) rfl rfl (by kernel_rfl) (by kernel_rfl) (by kernel_rfl) (fun _ _ _ h => h) (by rfl) ?_ (by assumption) ?_
  rotate_left
  · (intro w hSw; (try dsimp only at hSw); go_simp; try with_reducible rfl)
  try simp only [Act.put, List.setIfInBounds_toArray, List.set_cons_zero, List.set_cons_succ]
  refine takeW (i := 9) (d := some 103) (v := ?_) rfl rfl (by kernel_rfl) (by kernel_rfl) (by kernel_rfl) (fun _ _ _ h => h) (by rfl) ?_ (by assumption) ?_
  rotate_left
  · (intro w hSw; (try dsimp only at hSw); go_simp; try with_reducible rfl)
  try simp only [Act.put, List.setIfInBounds_toArray, List.set_cons_zero, List.set_cons_succ]
  refine wpAnyH_ready (rs := [8]) (by kernel_rfl) (by simp) ?_
  refine AllReadyH.cons rfl (fun K hK => ?_) AllReadyH.nil
  refine ite_intro (by rfl) ?_
  go_simp
  refine (LG1.out _ _ R1.out).mono ?_
  rintro e w4 ⟨rfl, b1⟩
  have S := Lib.hid (S.out.below b1)
  have R1 := Lib.hid (R1.out.later b1)
  have R2 := Lib.hid (R2.out.later b1)
  have R3 := Lib.hid (R3.out.later b1)
  have R4 := Lib.hid (R4.out.later b1)
  have HC := Lib.hid (And.intro (Nat.lt_of_lt_of_le HC.out.1 b1.size) ((b1.cell (p := ⟨bb, oo, none⟩) HC.out.1).trans HC.out.2))
  clear b1
  refine hK.out _ _ ?_ (fun hHeld => ?_)
  · exact ⟨N3d.out S.out, HC.out.2⟩
  clear hK K
  try simp only [Act.put, List.setIfInBounds_toArray, List.set_cons_zero, List.set_cons_succ]
  refine takeW (i := 10) (d := some 104) (v := ?_) rfl rfl (by kernel_rfl) (by kernel_rfl) (by kernel_rfl) (fun _ _ _ h => h) (by rfl) ?_ (by assumption) ?_
  rotate_left
  · (intro w hSw; (try dsimp only at hSw); go_simp; try with_reducible rfl)
  try simp only [Act.put, List.setIfInBounds_toArray, List.set_cons_zero, List.set_cons_succ]
  refine takeW (i := 11) (d := some 105) (v := ?_) rfl rfl (by kernel_rfl) (by kernel_rfl) (by kernel_rfl) (fun _ _ _ h => h) (by rfl) ?_ (by assumption) ?_
  rotate_left
  · (intro w hSw; (try dsimp only at hSw); go_simp; try with_reducible rfl)
  try simp only [Act.put, List.setIfInBounds_toArray, List.set_cons_zero, List.set_cons_succ]
  refine takeW (i := 12) (d := some 106) (v := ?_) rfl rfl (by kernel_rfl) (by kernel_rfl) (by kernel_rfl) (fun _ _ _ h => h) (by rfl) ?_ (by assumption) ?_
  rotate_left
  · (intro w hSw; (try dsimp only at hSw); go_simp; try with_reducible rfl)
  try simp only [Act.put, List.setIfInBounds_toArray, List.set_cons_zero, List.set_cons_succ]
  refine takeW (i := 13) (d := some 107) (v := ?_) rfl rfl (by kernel_rfl) (by kernel_rfl) (by kernel_rfl) (fun _ _ _ h => h) (by rfl) ?_ (by assumption) ?_
  rotate_left
  · (intro w hSw; (try dsimp only at hSw); go_simp; try with_reducible rfl)
  try simp only [Act.put, List.setIfInBounds_toArray, List.set_cons_zero, List.set_cons_succ]
  refine takeW (i := 15) (d := some 109) (v := ?_) rfl rfl (by kernel_rfl) (by kernel_rfl) (by kernel_rfl) (fun _ _ _ h => h) (by rfl) ?_ (by assumption) ?_
  rotate_left
  · (intro w hSw; (try dsimp only at hSw); go_simp; try with_reducible rfl)
  try simp only [Act.put, List.setIfInBounds_toArray, List.set_cons_zero, List.set_cons_succ]
  refine takeW (i := 18) (d := some 112) (v := ?_) rfl rfl (by kernel_rfl) (by kernel_rfl) (by kernel_rfl) (fun _ _ _ h => h) (by rfl) ?_ (by assumption) ?_
  rotate_left
  · (intro w hSw; (try dsimp only at hSw); go_simp; try with_reducible rfl)
  try simp only [Act.put, List.setIfInBounds_toArray, List.set_cons_zero, List.set_cons_succ]
  refine takeW (i := 19) (d := some 113) (v := ?_) rfl rfl (by kernel_rfl) (by kernel_rfl) (by kernel_rfl) (fun _ _ _ h => h) (by rfl) ?_ (by assumption) ?_
  rotate_left
  · (intro w hSw; (try dsimp only at hSw); go_simp; try with_reducible rfl)
  try simp only [Act.put, List.setIfInBounds_toArray, List.set_cons_zero, List.set_cons_succ]
  refine takeW (i := 20) (d := some 114) (v := ?_) rfl rfl (by kernel_rfl) (by kernel_rfl) (by kernel_rfl) (fun _ _ _ h => h) (by rfl) ?_ (by assumption) ?_
  rotate_left
  · (intro w hSw; (try dsimp only at hSw); go_simp; try with_reducible rfl)
  try simp only [Act.put, List.setIfInBounds_toArray, List.set_cons_zero, List.set_cons_succ]
  refine takeW (i := 21) (d := some 115) (v := ?_) rfl rfl (by kernel_rfl) (by kernel_rfl) (by kernel_rfl) (fun _ _ _ h => h) (by rfl) ?_ (by assumption) ?_
  rotate_left
  · (intro w hSw; (try dsimp only at hSw); go_simp; try with_reducible rfl)
  try simp only [Act.put, List.setIfInBounds_toArray, List.set_cons_zero, List.set_cons_succ]
  refine takeW (i := 22) (d := some 116) (v := ?_) rfl rfl (by kernel_rfl) (by kernel_rfl) (by kernel_rfl) (fun _ _ _ h => h) (by rfl) ?_ (by assumption) ?_
  rotate_left
  · (intro w hSw; (try dsimp only at hSw); go_simp; try with_reducible rfl)
  try simp only [Act.put, List.setIfInBounds_toArray, List.set_cons_zero, List.set_cons_succ]
  refine takeW (i := 23) (d := some 117) (v := ?_) rfl rfl (by kernel_rfl) (by kernel_rfl) (by kernel_rfl) (fun _ _ _ h => h) (by rfl) ?_ (by assumption) ?_
  rotate_left
  · (intro w hSw; (try dsimp only at hSw); go_simp; try with_reducible rfl)
  try simp only [Act.put, List.setIfInBounds_toArray, List.set_cons_zero, List.set_cons_succ]
  refine wpAnyH_ready (rs := [14]) (by kernel_rfl) (by simp) ?_
  refine AllReadyH.cons rfl (fun K hK => ?_) AllReadyH.nil
  refine ite_intro (by rfl) ?_
  go_simp
  refine (LG1.out _ _ R1.out).mono ?_
  rintro e w4 ⟨rfl, b1⟩
  have S := Lib.hid (S.out.below b1)
  have R1 := Lib.hid (R1.out.later b1)
  have R2 := Lib.hid (R2.out.later b1)
  have R3 := Lib.hid (R3.out.later b1)
  have R4 := Lib.hid (R4.out.later b1)
  have HC := Lib.hid (And.intro (Nat.lt_of_lt_of_le HC.out.1 b1.size) ((b1.cell (p := ⟨bb, oo, none⟩) HC.out.1).trans HC.out.2))
  clear b1
  refine hK.out _ _ ?_ (fun hHeld => ?_)
  · exact ⟨N3d.out S.out, HC.out.2⟩
  clear hK K
  try simp only [Act.put, List.setIfInBounds_toArray, List.set_cons_zero, List.set_cons_succ]
  refine wpAnyH_ready (rs := [16]) (by kernel_rfl) (by simp) ?_
  refine AllReadyH.cons rfl (fun K hK => ?_) AllReadyH.nil
  refine ite_intro (by rfl) ?_
  go_simp
  refine (LG2.out _ _ R2.out).mono ?_
  rintro e w4 ⟨rfl, b1⟩
  have S := Lib.hid (S.out.below b1)
  have R1 := Lib.hid (R1.out.later b1)
  have R2 := Lib.hid (R2.out.later b1)
  have R3 := Lib.hid (R3.out.later b1)
  have R4 := Lib.hid (R4.out.later b1)
  have HC := Lib.hid (And.intro (Nat.lt_of_lt_of_le HC.out.1 b1.size) ((b1.cell (p := ⟨bb, oo, none⟩) HC.out.1).trans HC.out.2))
  clear b1
  refine hK.out _ _ ?_ (fun hHeld => ?_)
  · exact ⟨N3d.out S.out, HC.out.2⟩
  clear hK K
  try simp only [Act.put, List.setIfInBounds_toArray, List.set_cons_zero, List.set_cons_succ]
  refine takeW (i := 17) (d := some 111) (v := ?_) rfl rfl (by kernel_rfl) (by kernel_rfl) (by kernel_rfl) (fun _ _ _ h => h) (by rfl) ?_ (by assumption) ?_
  rotate_left
  · (intro w hSw; (try dsimp only at hSw); go_simp; try with_reducible rfl)
  try simp only [Act.put, List.setIfInBounds_toArray, List.set_cons_zero, List.set_cons_succ]
  refine takeW (i := 24) (d := some 118) (v := ?_) rfl rfl (by kernel_rfl) (by kernel_rfl) (by kernel_rfl) (fun _ _ _ h => h) (by rfl) ?_ (by assumption) ?_
  rotate_left
  · (intro w hSw; (try dsimp only at hSw); go_simp; try with_reducible rfl)
  try simp only [Act.put, List.setIfInBounds_toArray, List.set_cons_zero, List.set_cons_succ]
  refine takeW (i := 25) (d := some 119) (v := ?_) rfl rfl (by kernel_rfl) (by kernel_rfl) (by kernel_rfl) (fun _ _ _ h => h) (by rfl) ?_ (by assumption) ?_
  rotate_left
  · (intro w hSw; (try dsimp only at hSw); go_simp; try with_reducible rfl)
  try simp only [Act.put, List.setIfInBounds_toArray, List.set_cons_zero, List.set_cons_succ]
  refine takeW (i := 26) (d := some 120) (v := ?_) rfl rfl (by kernel_rfl) (by kernel_rfl) (by kernel_rfl) (fun _ _ _ h => h) (by rfl) ?_ (by assumption) ?_
  rotate_left
  · (intro w hSw; (try dsimp only at hSw); go_simp; try with_reducible rfl)
  try simp only [Act.put, List.setIfInBounds_toArray, List.set_cons_zero, List.set_cons_succ]
  refine takeW (i := 27) (d := some 121) (v := ?_) rfl rfl (by kernel_rfl) (by kernel_rfl) (by kernel_rfl) (fun _ _ _ h => h) (by rfl) ?_ (by assumption) ?_
  rotate_left
  · (intro w hSw; (try dsimp only at hSw); go_simp; try with_reducible rfl)
  try simp only [Act.put, List.setIfInBounds_toArray, List.set_cons_zero, List.set_cons_succ]
  refine takeW (i := 28) (d := some 122) (v := ?_) rfl rfl (by kernel_rfl) (by kernel_rfl) (by kernel_rfl) (fun _ _ _ h => h) (by rfl) ?_ (by assumption) ?_
  rotate_left
  · (intro w hSw; (try dsimp only at hSw); go_simp; try with_reducible rfl)
  try simp only [Act.put, List.setIfInBounds_toArray, List.set_cons_zero, List.set_cons_succ]
  refine takeW (i := 29) (d := some 123) (v := ?_) rfl rfl (by kernel_rfl) (by kernel_rfl) (by kernel_rfl) (fun _ _ _ h => h) (by rfl) ?_ (by assumption) ?_
  rotate_left
  · (intro w hSw; (try dsimp only at hSw); go_simp; try with_reducible rfl)
  try simp only [Act.put, List.setIfInBounds_toArray, List.set_cons_zero, List.set_cons_succ]
  refine takeW (i := 30) (d := some 124) (v := ?_) rfl rfl (by kernel_rfl) (by kernel_rfl) (by kernel_rfl) (fun _ _ _ h => h) (by rfl) ?_ (by assumption) ?_
  rotate_left
  · (intro w hSw; (try dsimp only at hSw); go_simp; try with_reducible rfl)
  try simp only [Act.put, List.setIfInBounds_toArray, List.set_cons_zero, List.set_cons_succ]
  refine takeW (i := 31) (d := some 125) (v := ?_) rfl rfl (by kernel_rfl) (by kernel_rfl) (by kernel_rfl) (fun _ _ _ h => h) (by rfl) ?_ (by assumption) ?_
  rotate_left
  · (intro w hSw; (try dsimp only at hSw); go_simp; try with_reducible rfl)
  try simp only [Act.put, List.setIfInBounds_toArray, List.set_cons_zero, List.set_cons_succ]
  refine takeW (i := 32) (d := some 126) (v := ?_) rfl rfl (by kernel_rfl) (by kernel_rfl) (by kernel_rfl) (fun _ _ _ h => h) (by rfl) ?_ (by assumption) ?_
  rotate_left
  · (intro w hSw; (try dsimp only at hSw); go_simp; try with_reducible rfl)
  try simp only [Act.put, List.setIfInBounds_toArray, List.set_cons_zero, List.set_cons_succ]
  refine takeW (i := 33) (d := some 127) (v := ?_) rfl rfl (by kernel_rfl) (by kernel_rfl) (by kernel_rfl) (fun _ _ _ h => h) (by rfl) ?_ (by assumption) ?_
  rotate_left
  · (intro w hSw; (try dsimp only at hSw); go_simp; try with_reducible rfl)
  try simp only [Act.put, List.setIfInBounds_toArray, List.set_cons_zero, List.set_cons_succ]
  refine takeW (i := 34) (d := some 128) (v := ?_) rfl rfl (by kernel_rfl) (by kernel_rfl) (by kernel_rfl) (fun _ _ _ h => h) (by rfl) ?_ (by assumption) ?_
  rotate_left
  · (intro w hSw; (try dsimp only at hSw); go_simp; try with_reducible rfl)
  try simp only [Act.put, List.setIfInBounds_toArray, List.set_cons_zero, List.set_cons_succ]
  refine takeW (i := 35) (d := some 129) (v := ?_) rfl rfl (by kernel_rfl) (by kernel_rfl) (by kernel_rfl) (fun _ _ _ h => h) (by rfl) ?_ (by assumption) ?_
  rotate_left
  · (intro w hSw; (try dsimp only at hSw); go_simp; try with_reducible rfl)
  try simp only [Act.put, List.setIfInBounds_toArray, List.set_cons_zero, List.set_cons_succ]
  refine takeW (i := 36) (d := some 130) (v := ?_) rfl rfl (by kernel_rfl) (by kernel_rfl) (by kernel_rfl) (fun _ _ _ h => h) (by rfl) ?_ (by assumption) ?_
  rotate_left
  · (intro w hSw; (try dsimp only at hSw); go_simp; try with_reducible rfl)
  try simp only [Act.put, List.setIfInBounds_toArray, List.set_cons_zero, List.set_cons_succ]
  refine takeW (i := 37) (d := some 131) (v := ?_) rfl rfl (by kernel_rfl) (by kernel_rfl) (by kernel_rfl) (fun _ _ _ h => h) (by rfl) ?_ (by assumption) ?_
  rotate_left
  · (intro w hSw; (try dsimp only at hSw); go_simp; try with_reducible rfl)
  try simp only [Act.put, List.setIfInBounds_toArray, List.set_cons_zero, List.set_cons_succ]
  refine takeW (i := 38) (d := some 132) (v := ?_) rfl rfl (by kernel_rfl) (by kernel_rfl) (by kernel_rfl) (fun _ _ _ h => h) (by rfl) ?_ (by assumption) ?_
  rotate_left
  · (intro w hSw; (try dsimp only at hSw); go_simp; try with_reducible rfl)
  try simp only [Act.put, List.setIfInBounds_toArray, List.set_cons_zero, List.set_cons_succ]
  refine takeW (i := 39) (d := some 133) (v := ?_) rfl rfl (by kernel_rfl) (by kernel_rfl) (by kernel_rfl) (fun _ _ _ h => h) (by rfl) ?_ (by assumption) ?_
  rotate_left
  · (intro w hSw; (try dsimp only at hSw); go_simp; try with_reducible rfl)
  try simp only [Act.put, List.setIfInBounds_toArray, List.set_cons_zero, List.set_cons_succ]
  refine takeW (i := 40) (d := some 134) (v := ?_) rfl rfl (by kernel_rfl) (by kernel_rfl) (by kernel_rfl) (fun _ _ _ h => h) (by rfl) ?_ (by assumption) ?_
  rotate_left
  · (intro w hSw; (try dsimp only at hSw); go_simp; try with_reducible rfl)
  try simp only [Act.put, List.setIfInBounds_toArray, List.set_cons_zero, List.set_cons_succ]
  refine takeW (i := 41) (d := some 135) (v := ?_) rfl rfl (by kernel_rfl) (by kernel_rfl) (by kernel_rfl) (fun _ _ _ h => h) (by rfl) ?_ (by assumption) ?_
  rotate_left
  · (intro w hSw; (try dsimp only at hSw); go_simp; try with_reducible rfl)
  try simp only [Act.put, List.setIfInBounds_toArray, List.set_cons_zero, List.set_cons_succ]
  refine takeW (i := 42) (d := some 136) (v := ?_) rfl rfl (by kernel_rfl) (by kernel_rfl) (by kernel_rfl) (fun _ _ _ h => h) (by rfl) ?_ (by assumption) ?_
  rotate_left
  · (intro w hSw; (try dsimp only at hSw); go_simp; try with_reducible rfl)
  try simp only [Act.put, List.setIfInBounds_toArray, List.set_cons_zero, List.set_cons_succ]
  refine takeW (i := 43) (d := some 137) (v := ?_) rfl rfl (by kernel_rfl) (by kernel_rfl) (by kernel_rfl) (fun _ _ _ h => h) (by rfl) ?_ (by assumption) ?_
  rotate_left
  · (intro w hSw; (try dsimp only at hSw); go_simp; try with_reducible rfl)
  try simp only [Act.put, List.setIfInBounds_toArray, List.set_cons_zero, List.set_cons_succ]
  refine takeW (i := 44) (d := some 138) (v := ?_) rfl rfl (by kernel_rfl) (by kernel_rfl) (by kernel_rfl) (fun _ _ _ h => h) (by rfl) ?_ (by assumption) ?_
  rotate_left
  · (intro w hSw; (try dsimp only at hSw); go_simp; try with_reducible rfl)
  try simp only [Act.put, List.setIfInBounds_toArray, List.set_cons_zero, List.set_cons_succ]
  refine wpAnyH_done (by kernel_rfl) ?_ _
  clear t0 t1 t2 t3 t4 t5 t6
  obtain ⟨t0, t1, t2, t3, t4, t5, t6, _⟩ := S.out.out
  go_wp2_with fail
  have S := Lib.hid (S.out.drew)
  have bd : Below w4.heap.size w4 w4.drew := (Below.refl _ _).drew
  have R1 := Lib.hid (R1.out.later bd)
  have R2 := Lib.hid (R2.out.later bd)
  have R3 := Lib.hid (R3.out.later bd)
  have R4 := Lib.hid (R4.out.later bd)
  have HC : Hid (bb < w4.drew.heap.size ∧ w4.drew.cell? ⟨bb, oo, none⟩ = some (.int .i64 p)) := Lib.hid HC.out
  clear bd
  refine wp_region_held_drew (S := fun W => N3 w (.slice A k c) (.slice A' k' c') (.slice B l d) (.slice B' l' d') (.int .i64 lo) (.int .i64 hi) W ∧ W.cell? ⟨bb, oo, none⟩ = some (.int .i64 p)) (by kernel_rfl) ?_ (fun hHeld => ?_)
  · exact ⟨N3d.out S.out, HC.out.2⟩
  refine takeW (i := 0) (d := some 139) (v := ?_) rfl rfl (by kernel_rfl) (by kernel_rfl) (by kernel_rfl) (fun _ _ _ h => h) (by rfl) ?_ (by assumption) ?_
  rotate_left
  · (intro w hSw; (try dsimp only at hSw); go_simp; try with_reducible rfl)
  try simp only [Act.put, List.setIfInBounds_toArray, List.set_cons_zero, List.set_cons_succ]
  refine takeW (i := 1) (d := some 140) (v := ?_) rfl rfl (by kernel_rfl) (by kernel_rfl) (by kernel_rfl) (fun _ _ _ h => h) (by rfl) ?_ (by assumption) ?_
  rotate_left
  · (intro w hSw; (try dsimp only at hSw); go_simp; try with_reducible rfl)
  try simp only [Act.put, List.setIfInBounds_toArray, List.set_cons_zero, List.set_cons_succ]
  refine takeW (i := 2) (d := some 141) (v := ?_) rfl rfl (by kernel_rfl) (by kernel_rfl) (by kernel_rfl) (fun _ _ _ h => h) (by rfl) ?_ (by assumption) ?_
  rotate_left
  · (intro w hSw; (try dsimp only at hSw); go_simp; try with_reducible rfl)
  try simp only [Act.put, List.setIfInBounds_toArray, List.set_cons_zero, List.set_cons_succ]
  refine takeW (i := 3) (d := some 142) (v := ?_) rfl rfl (by kernel_rfl) (by kernel_rfl) (by kernel_rfl) (fun _ _ _ h => h) (by rfl) ?_ (by assumption) ?_
  rotate_left
  · (intro w hSw; (try dsimp only at hSw); go_simp; try with_reducible rfl)
  try simp only [Act.put, List.setIfInBounds_toArray, List.set_cons_zero, List.set_cons_succ]
  refine takeW (i := 4) (d := some 143) (v := ?_) rfl rfl (by kernel_rfl) (by kernel_rfl) (by kernel_rfl) (fun _ _ _ h => h) (by rfl) ?_ (by assumption) ?_
  rotate_left
  · (intro w hSw; (try dsimp only at hSw); go_simp; try with_reducible rfl)
  try simp only [Act.put, List.setIfInBounds_toArray, List.set_cons_zero, List.set_cons_succ]
  refine takeW (i := 5) (d := some 144) (v := ?_) rfl rfl (by kernel_rfl) (by kernel_rfl) (by kernel_rfl) (fun _ _ _ h => h) (by rfl) ?_ (by assumption) ?_
  rotate_left
  · (intro w hSw; (try dsimp only at hSw); go_simp; try with_reducible rfl)
  try simp only [Act.put, List.setIfInBounds_toArray, List.set_cons_zero, List.set_cons_succ]
  refine takeW (i := 6) (d := some 145) (v := ?_) rfl rfl (by kernel_rfl) (by kernel_rfl) (by kernel_rfl) (fun _ _ _ h => h) (by rfl) ?_ (by assumption) ?_
  rotate_left
  · (intro w hSw; (try dsimp only at hSw); go_simp; try with_reducible rfl)
  try simp only [Act.put, List.setIfInBounds_toArray, List.set_cons_zero, List.set_cons_succ]
  refine takeW (i := 7) (d := some 146) (v := ?_) rfl rfl (by kernel_rfl) (by kernel_rfl) (by kernel_rfl) (fun _ _ _ h => h) (by rfl) ?_ (by assumption) ?_
  rotate_left
  · (intro w hSw; (try dsimp only at hSw); go_simp; try with_reducible rfl)
  try simp only [Act.put, List.setIfInBounds_toArray, List.set_cons_zero, List.set_cons_succ]
  refine takeW (i := 8) (d := some 147) (v := ?_) rfl rfl (by kernel_rfl) (by kernel_rfl) (by kernel_rfl) (fun _ _ _ h => h) (by rfl) ?_ (by assumption) ?_
  rotate_left
  · (intro w hSw; (try dsimp only at hSw); go_simp; try with_reducible rfl)
  try simp only [Act.put, List.setIfInBounds_toArray, List.set_cons_zero, List.set_cons_succ]
  refine takeW (i := 9) (d := some 148) (v := ?_) rfl rfl (by kernel_rfl) (by kernel_rfl) (by kernel_rfl) (fun _ _ _ h => h) (by rfl) ?_ (by assumption) ?_
  rotate_left
  · (intro w hSw; (try dsimp only at hSw); go_simp; try with_reducible rfl)
  try simp only [Act.put, List.setIfInBounds_toArray, List.set_cons_zero, List.set_cons_succ]
  refine takeW (i := 10) (d := some 149) (v := ?_) rfl rfl (by kernel_rfl) (by kernel_rfl) (by kernel_rfl) (fun _ _ _ h => h) (by rfl) ?_ (by assumption) ?_
  rotate_left
  · (intro w hSw; (try dsimp only at hSw); go_simp; try with_reducible rfl)
  try simp only [Act.put, List.setIfInBounds_toArray, List.set_cons_zero, List.set_cons_succ]
  refine takeW (i := 11) (d := some 150) (v := ?_) rfl rfl (by kernel_rfl) (by kernel_rfl) (by kernel_rfl) (fun _ _ _ h => h) (by rfl) ?_ (by assumption) ?_
  rotate_left
  · (intro w hSw; (try dsimp only at hSw); go_simp; try with_reducible rfl)
  try simp only [Act.put, List.setIfInBounds_toArray, List.set_cons_zero, List.set_cons_succ]
  refine takeW (i := 12) (d := some 22) (v := ?_) rfl rfl (by kernel_rfl) (by kernel_rfl) (by kernel_rfl) (fun _ _ _ h => h) (by rfl) ?_ (by assumption) ?_
  rotate_left
  · (intro w hSw; (try dsimp only at hSw); go_simp; try with_reducible rfl)
  try simp only [Act.put, List.setIfInBounds_toArray, List.set_cons_zero, List.set_cons_succ]
  refine wpAnyH_done (by kernel_rfl) ?_ _
  clear t0 t1 t2 t3 t4 t5 t6
  obtain ⟨t0, t1, t2, t3, t4, t5, t6, _⟩ := S.out.out
  go_wp2_with fail
  have S := Lib.hid (S.out.drew)
  have bd : Below w4.drew.heap.size w4.drew w4.drew.drew := (Below.refl _ _).drew
  have R1 := Lib.hid (R1.out.later bd)
  have R2 := Lib.hid (R2.out.later bd)
  have R3 := Lib.hid (R3.out.later bd)
  have R4 := Lib.hid (R4.out.later bd)
  have HC : Hid (bb < w4.drew.drew.heap.size ∧ w4.drew.drew.cell? ⟨bb, oo, none⟩ = some (.int .i64 p)) := Lib.hid HC.out
  clear bd
  refine wp_region_held_drew (S := fun W => N3 w (.slice A k c) (.slice A' k' c') (.slice B l d) (.slice B' l' d') (.int .i64 lo) (.int .i64 hi) W ∧ W.cell? ⟨bb, oo, none⟩ = some (.int .i64 p)) (by kernel_rfl) ?_ (fun hHeld => ?_)
  · exact ⟨N3d.out S.out, HC.out.2⟩
  refine wpAnyH_ready (rs := [0]) (by kernel_rfl) (by simp) ?_
  refine AllReadyH.cons rfl (fun K hK => ?_) AllReadyH.nil
  refine ite_intro (by rfl) ?_
  go_simp
  refine (HS.out _).mono ?_
  rintro e w4 ⟨rfl, b1⟩
  have S := Lib.hid (S.out.below b1)
  have R1 := Lib.hid (R1.out.later b1)
  have R2 := Lib.hid (R2.out.later b1)
  have R3 := Lib.hid (R3.out.later b1)
  have R4 := Lib.hid (R4.out.later b1)
  have HC := Lib.hid (And.intro (Nat.lt_of_lt_of_le HC.out.1 b1.size) ((b1.cell (p := ⟨bb, oo, none⟩) HC.out.1).trans HC.out.2))
  clear b1
  refine hK.out _ _ ?_ (fun hHeld => ?_)
  · exact ⟨N3d.out S.out, HC.out.2⟩
  clear hK K
  try simp only [Act.put, List.setIfInBounds_toArray, List.set_cons_zero, List.set_cons_succ]
  refine takeW (i := 1) (d := some 152) (v := ?_) rfl rfl (by kernel_rfl) (by kernel_rfl) (by kernel_rfl) (fun _ _ _ h => h) (by rfl) ?_ (by assumption) ?_
  rotate_left
  · (intro w hSw; (try dsimp only at hSw); go_simp; try with_reducible rfl)
  try simp only [Act.put, List.setIfInBounds_toArray, List.set_cons_zero, List.set_cons_succ]
  refine takeW (i := 2) (d := some 153) (v := ?_) rfl rfl (by kernel_rfl) (by kernel_rfl) (by kernel_rfl) (fun _ _ _ h => h) (by rfl) ?_ (by assumption) ?_
  rotate_left
  · (intro w hSw; (try dsimp only at hSw); go_simp; try with_reducible rfl)
  try simp only [Act.put, List.setIfInBounds_toArray, List.set_cons_zero, List.set_cons_succ]
  refine takeW (i := 3) (d := some 154) (v := ?_) rfl rfl (by kernel_rfl) (by kernel_rfl) (by kernel_rfl) (fun _ _ _ h => h) (by rfl) ?_ (by assumption) ?_
  rotate_left
  · (intro w hSw; (try dsimp only at hSw); go_simp; try with_reducible rfl)
  try simp only [Act.put, List.setIfInBounds_toArray, List.set_cons_zero, List.set_cons_succ]
  refine takeW (i := 5) (d := some 156) (v := ?_) rfl rfl (by kernel_rfl) (by kernel_rfl) (by kernel_rfl) (fun _ _ _ h => h) (by rfl) ?_ (by assumption) ?_
  rotate_left
  · (intro w hSw; (try dsimp only at hSw); go_simp; try with_reducible rfl)
  try simp only [Act.put, List.setIfInBounds_toArray, List.set_cons_zero, List.set_cons_succ]
  refine takeW (i := 6) (d := some 157) (v := ?_) rfl rfl (by kernel_rfl) (by kernel_rfl) (by kernel_rfl) (fun _ _ _ h => h) (by rfl) ?_ (by assumption) ?_
  rotate_left
  · (intro w hSw; (try dsimp only at hSw); go_simp; try with_reducible rfl)
  try simp only [Act.put, List.setIfInBounds_toArray, List.set_cons_zero, List.set_cons_succ]
  refine wpAnyH_ready (rs := [4]) (by kernel_rfl) (by simp) ?_
  refine AllReadyH.cons rfl (fun K hK => ?_) AllReadyH.nil
  refine ite_intro (by rfl) ?_
  go_simp
  refine (IN1.out _ _ R1.out).mono ?_
  rintro e w4 ⟨rfl, b1⟩
  have S := Lib.hid (S.out.below b1)
  have R1 := Lib.hid (R1.out.later b1)
  have R2 := Lib.hid (R2.out.later b1)
  have R3 := Lib.hid (R3.out.later b1)
  have R4 := Lib.hid (R4.out.later b1)
  have HC := Lib.hid (And.intro (Nat.lt_of_lt_of_le HC.out.1 b1.size) ((b1.cell (p := ⟨bb, oo, none⟩) HC.out.1).trans HC.out.2))
  clear b1
  refine hK.out _ _ ?_ (fun hHeld => ?_)
  · exact ⟨N3d.out S.out, HC.out.2⟩
  clear hK K
  try simp only [Act.put, List.setIfInBounds_toArray, List.set_cons_zero, List.set_cons_succ]
  refine wpAnyH_ready (rs := [7]) (by kernel_rfl) (by simp) ?_
  refine AllReadyH.cons rfl (fun K hK => ?_) AllReadyH.nil
  refine ite_intro (by rfl) ?_
  go_simp
  refine (IN2.out _ _ R2.out).mono ?_
  rintro e w4 ⟨rfl, b1⟩
  have S := Lib.hid (S.out.below b1)
  have R1 := Lib.hid (R1.out.later b1)
  have R2 := Lib.hid (R2.out.later b1)
  have R3 := Lib.hid (R3.out.later b1)
  have R4 := Lib.hid (R4.out.later b1)
  have HC := Lib.hid (And.intro (Nat.lt_of_lt_of_le HC.out.1 b1.size) ((b1.cell (p := ⟨bb, oo, none⟩) HC.out.1).trans HC.out.2))
  clear b1
  refine hK.out _ _ ?_ (fun hHeld => ?_)
  · exact ⟨N3d.out S.out, HC.out.2⟩
  clear hK K
  try simp only [Act.put, List.setIfInBounds_toArray, List.set_cons_zero, List.set_cons_succ]
  refine takeW (i := 8) (d := some 159) (v := ?_) rfl rfl (by kernel_rfl) (by kernel_rfl) (by kernel_rfl) (fun _ _ _ h => h) (by rfl) ?_ (by assumption) ?_
  rotate_left
  · (intro w hSw; (try dsimp only at hSw); go_simp; try with_reducible rfl)
  try simp only [Act.put, List.setIfInBounds_toArray, List.set_cons_zero, List.set_cons_succ]
  refine takeW (i := 9) (d := some 160) (v := ?_) rfl rfl (by kernel_rfl) (by kernel_rfl) (by kernel_rfl) (fun _ _ _ h => h) (by rfl) ?_ (by assumption) ?_
  rotate_left
  · (intro w hSw; (try dsimp only at hSw); go_simp; try with_reducible rfl)
  try simp only [Act.put, List.setIfInBounds_toArray, List.set_cons_zero, List.set_cons_succ]
  refine takeW (i := 10) (d := some 161) (v := ?_) rfl rfl (by kernel_rfl) (by kernel_rfl) (by kernel_rfl) (fun _ _ _ h => h) (by rfl) ?_ (by assumption) ?_
  rotate_left
  · (intro w hSw; (try dsimp only at hSw); go_simp; try with_reducible rfl)
  try simp only [Act.put, List.setIfInBounds_toArray, List.set_cons_zero, List.set_cons_succ]
  refine takeW (i := 11) (d := some 162) (v := ?_) rfl rfl (by kernel_rfl) (by kernel_rfl) (by kernel_rfl) (fun _ _ _ h => h) (by rfl) ?_ (by assumption) ?_
  rotate_left
  · (intro w hSw; (try dsimp only at hSw); go_simp; try with_reducible rfl)
  try simp only [Act.put, List.setIfInBounds_toArray, List.set_cons_zero, List.set_cons_succ]
  refine takeW (i := 12) (d := some 163) (v := ?_) rfl rfl (by kernel_rfl) (by kernel_rfl) (by kernel_rfl) (fun _ _ _ h => h) (by rfl) ?_ (by assumption) ?_
  rotate_left
  · (intro w hSw; (try dsimp only at hSw); go_simp; try with_reducible rfl)
  try simp only [Act.put, List.setIfInBounds_toArray, List.set_cons_zero, List.set_cons_succ]
  refine takeW (i := 14) (d := some 165) (v := ?_) rfl rfl (by kernel_rfl) (by kernel_rfl) (by kernel_rfl) (fun _ _ _ h => h) (by rfl) ?_ (by assumption) ?_
  rotate_left
  · (intro w hSw; (try dsimp only at hSw); go_simp; try with_reducible rfl)
  try simp only [Act.put, List.setIfInBounds_toArray, List.set_cons_zero, List.set_cons_succ]
  refine takeW (i := 15) (d := some 166) (v := ?_) rfl rfl (by kernel_rfl) (by kernel_rfl) (by kernel_rfl) (fun _ _ _ h => h) (by rfl) ?_ (by assumption) ?_
  rotate_left
  · (intro w hSw; (try dsimp only at hSw); go_simp; try with_reducible rfl)
  try simp only [Act.put, List.setIfInBounds_toArray, List.set_cons_zero, List.set_cons_succ]
  refine wpAnyH_ready (rs := [13]) (by kernel_rfl) (by simp) ?_
  refine AllReadyH.cons rfl (fun K hK => ?_) AllReadyH.nil
  refine ite_intro (by rfl) ?_
  go_simp
  refine (IN1.out _ _ R1.out).mono ?_
  rintro e w4 ⟨rfl, b1⟩
  have S := Lib.hid (S.out.below b1)
  have R1 := Lib.hid (R1.out.later b1)
  have R2 := Lib.hid (R2.out.later b1)
  have R3 := Lib.hid (R3.out.later b1)
  have R4 := Lib.hid (R4.out.later b1)
  have HC := Lib.hid (And.intro (Nat.lt_of_lt_of_le HC.out.1 b1.size) ((b1.cell (p := ⟨bb, oo, none⟩) HC.out.1).trans HC.out.2))
  clear b1
  refine hK.out _ _ ?_ (fun hHeld => ?_)
  · exact ⟨N3d.out S.out, HC.out.2⟩
  clear hK K
  try simp only [Act.put, List.setIfInBounds_toArray, List.set_cons_zero, List.set_cons_succ]
  refine wpAnyH_ready (rs := [16]) (by kernel_rfl) (by simp) ?_
  refine AllReadyH.cons rfl (fun K hK => ?_) AllReadyH.nil
  refine ite_intro (by rfl) ?_
  go_simp
  refine (HA.out _ S.out).mono ?_
  rintro e w4 ⟨rfl, b1⟩
  have S := Lib.hid (S.out.below b1)
  have R1 := Lib.hid (R1.out.later b1)
  have R2 := Lib.hid (R2.out.later b1)
  have R3 := Lib.hid (R3.out.later b1)
  have R4 := Lib.hid (R4.out.later b1)
  have HC := Lib.hid (And.intro (Nat.lt_of_lt_of_le HC.out.1 b1.size) ((b1.cell (p := ⟨bb, oo, none⟩) HC.out.1).trans HC.out.2))
  clear b1
  refine hK.out _ _ ?_ (fun hHeld => ?_)
  · exact ⟨N3d.out S.out, HC.out.2⟩
  clear hK K
  try simp only [Act.put, List.setIfInBounds_toArray, List.set_cons_zero, List.set_cons_succ]
  refine takeW (i := 17) (d := some 168) (v := ?_) rfl rfl (by kernel_rfl) (by kernel_rfl) (by kernel_rfl) (fun _ _ _ h => h) (by rfl) ?_ (by assumption) ?_
  rotate_left
  · (intro w hSw; (try dsimp only at hSw); go_simp; try with_reducible rfl)
  try simp only [Act.put, List.setIfInBounds_toArray, List.set_cons_zero, List.set_cons_succ]
  refine takeW (i := 18) (d := some 169) (v := ?_) rfl rfl (by kernel_rfl) (by kernel_rfl) (by kernel_rfl) (fun _ _ _ h => h) (by rfl) ?_ (by assumption) ?_
  rotate_left
  · (intro w hSw; (try dsimp only at hSw); go_simp; try with_reducible rfl)
  try simp only [Act.put, List.setIfInBounds_toArray, List.set_cons_zero, List.set_cons_succ]
  refine takeW (i := 19) (d := some 170) (v := ?_) rfl rfl (by kernel_rfl) (by kernel_rfl) (by kernel_rfl) (fun _ _ _ h => h) (by rfl) ?_ (by assumption) ?_
  rotate_left
  · (intro w hSw; (try dsimp only at hSw); go_simp; try with_reducible rfl)
  try simp only [Act.put, List.setIfInBounds_toArray, List.set_cons_zero, List.set_cons_succ]
  refine takeW (i := 20) (d := some 171) (v := ?_) rfl rfl (by kernel_rfl) (by kernel_rfl) (by kernel_rfl) (fun _ _ _ h => h) (by rfl) ?_ (by assumption) ?_
  rotate_left
  · (intro w hSw; (try dsimp only at hSw); go_simp; try with_reducible rfl)
  try simp only [Act.put, List.setIfInBounds_toArray, List.set_cons_zero, List.set_cons_succ]
  refine takeW (i := 21) (d := some 172) (v := ?_) rfl rfl (by kernel_rfl) (by kernel_rfl) (by kernel_rfl) (fun _ _ _ h => h) (by rfl) ?_ (by assumption) ?_
  rotate_left
  · (intro w hSw; (try dsimp only at hSw); go_simp; try with_reducible rfl)
  try simp only [Act.put, List.setIfInBounds_toArray, List.set_cons_zero, List.set_cons_succ]
  refine takeW (i := 23) (d := some 174) (v := ?_) rfl rfl (by kernel_rfl) (by kernel_rfl) (by kernel_rfl) (fun _ _ _ h => h) (by rfl) ?_ (by assumption) ?_
  rotate_left
  · (intro w hSw; (try dsimp only at hSw); go_simp; try with_reducible rfl)
  try simp only [Act.put, List.setIfInBounds_toArray, List.set_cons_zero, List.set_cons_succ]
  refine takeW (i := 24) (d := some 175) (v := ?_) rfl rfl (by kernel_rfl) (by kernel_rfl) (by kernel_rfl) (fun _ _ _ h => h) (by rfl) ?_ (by assumption) ?_
  rotate_left
  · (intro w hSw; (try dsimp only at hSw); go_simp; try with_reducible rfl)
  try simp only [Act.put, List.setIfInBounds_toArray, List.set_cons_zero, List.set_cons_succ]
  refine wpAnyH_ready (rs := [22]) (by kernel_rfl) (by simp) ?_
  refine AllReadyH.cons rfl (fun K hK => ?_) AllReadyH.nil
  refine ite_intro (by rfl) ?_
  go_simp
  refine (IN3.out _ _ R3.out).mono ?_
  rintro e w4 ⟨rfl, b1⟩
  have S := Lib.hid (S.out.below b1)
  have R1 := Lib.hid (R1.out.later b1)
  have R2 := Lib.hid (R2.out.later b1)
  have R3 := Lib.hid (R3.out.later b1)
  have R4 := Lib.hid (R4.out.later b1)
  have HC := Lib.hid (And.intro (Nat.lt_of_lt_of_le HC.out.1 b1.size) ((b1.cell (p := ⟨bb, oo, none⟩) HC.out.1).trans HC.out.2))
  clear b1
  refine hK.out _ _ ?_ (fun hHeld => ?_)
  · exact ⟨N3d.out S.out, HC.out.2⟩
  clear hK K
  try simp only [Act.put, List.setIfInBounds_toArray, List.set_cons_zero, List.set_cons_succ]
  refine wpAnyH_ready (rs := [25]) (by kernel_rfl) (by simp) ?_
  refine AllReadyH.cons rfl (fun K hK => ?_) AllReadyH.nil
  refine ite_intro (by rfl) ?_
  go_simp
  refine (IN1.out _ _ R1.out).mono ?_
  rintro e w4 ⟨rfl, b1⟩
  have S := Lib.hid (S.out.below b1)
  have R1 := Lib.hid (R1.out.later b1)
  have R2 := Lib.hid (R2.out.later b1)
  have R3 := Lib.hid (R3.out.later b1)
  have R4 := Lib.hid (R4.out.later b1)
  have HC := Lib.hid (And.intro (Nat.lt_of_lt_of_le HC.out.1 b1.size) ((b1.cell (p := ⟨bb, oo, none⟩) HC.out.1).trans HC.out.2))
  clear b1
  refine hK.out _ _ ?_ (fun hHeld => ?_)
  · exact ⟨N3d.out S.out, HC.out.2⟩
  clear hK K
  try simp only [Act.put, List.setIfInBounds_toArray, List.set_cons_zero, List.set_cons_succ]
  refine takeW (i := 26) (d := some 177) (v := ?_) rfl rfl (by kernel_rfl) (by kernel_rfl) (by kernel_rfl) (fun _ _ _ h => h) (by rfl) ?_ (by assumption) ?_
  rotate_left
  · (intro w hSw; (try dsimp only at hSw); go_simp; try with_reducible rfl)
  try simp only [Act.put, List.setIfInBounds_toArray, List.set_cons_zero, List.set_cons_succ]
  refine takeW (i := 27) (d := some 178) (v := ?_) rfl rfl (by kernel_rfl) (by kernel_rfl) (by kernel_rfl) (fun _ _ _ h => h) (by rfl) ?_ (by assumption) ?_
  rotate_left
  · (intro w hSw; (try dsimp only at hSw); go_simp; try with_reducible rfl)
  try simp only [Act.put, List.setIfInBounds_toArray, List.set_cons_zero, List.set_cons_succ]
  refine takeW (i := 28) (d := some 179) (v := ?_) rfl rfl (by kernel_rfl) (by kernel_rfl) (by kernel_rfl) (fun _ _ _ h => h) (by rfl) ?_ (by assumption) ?_
  rotate_left
  · (intro w hSw; (try dsimp only at hSw); go_simp; try with_reducible rfl)
  try simp only [Act.put, List.setIfInBounds_toArray, List.set_cons_zero, List.set_cons_succ]
  refine wpAnyH_ready (rs := [29]) (by kernel_rfl) (by simp) ?_
  refine AllReadyH.cons rfl (fun K hK => ?_) AllReadyH.nil
  refine ite_intro (by rfl) ?_
  go_simp
  refine (IN4.out _ _ R4.out).mono ?_
  rintro e w4 ⟨rfl, b1⟩
  have S := Lib.hid (S.out.below b1)
  have R1 := Lib.hid (R1.out.later b1)
  have R2 := Lib.hid (R2.out.later b1)
  have R3 := Lib.hid (R3.out.later b1)
  have R4 := Lib.hid (R4.out.later b1)
  have HC := Lib.hid (And.intro (Nat.lt_of_lt_of_le HC.out.1 b1.size) ((b1.cell (p := ⟨bb, oo, none⟩) HC.out.1).trans HC.out.2))
  clear b1
  refine hK.out _ _ ?_ (fun hHeld => ?_)
  · exact ⟨N3d.out S.out, HC.out.2⟩
  clear hK K
  try simp only [Act.put, List.setIfInBounds_toArray, List.set_cons_zero, List.set_cons_succ]
  refine takeW (i := 30) (d := some 181) (v := ?_) rfl rfl (by kernel_rfl) (by kernel_rfl) (by kernel_rfl) (fun _ _ _ h => h) (by rfl) ?_ (by assumption) ?_
  rotate_left
  · (intro w hSw; (try dsimp only at hSw); go_simp; try with_reducible rfl)
  try simp only [Act.put, List.setIfInBounds_toArray, List.set_cons_zero, List.set_cons_succ]
  refine takeW (i := 31) (d := some 182) (v := ?_) rfl rfl (by kernel_rfl) (by kernel_rfl) (by kernel_rfl) (fun _ _ _ h => h) (by rfl) ?_ (by assumption) ?_
  rotate_left
  · (intro w hSw; (try dsimp only at hSw); go_simp; try with_reducible rfl)
  try simp only [Act.put, List.setIfInBounds_toArray, List.set_cons_zero, List.set_cons_succ]
  refine takeW (i := 32) (d := some 183) (v := ?_) rfl rfl (by kernel_rfl) (by kernel_rfl) (by kernel_rfl) (fun _ _ _ h => h) (by rfl) ?_ (by assumption) ?_
  rotate_left
  · (intro w hSw; (try dsimp only at hSw); go_simp; try with_reducible rfl)
  try simp only [Act.put, List.setIfInBounds_toArray, List.set_cons_zero, List.set_cons_succ]
  refine takeW (i := 33) (d := some 184) (v := ?_) rfl rfl (by kernel_rfl) (by kernel_rfl) (by kernel_rfl) (fun _ _ _ h => h) (by rfl) ?_ (by assumption) ?_
  rotate_left
  · (intro w hSw; (try dsimp only at hSw); go_simp; try with_reducible rfl)
  try simp only [Act.put, List.setIfInBounds_toArray, List.set_cons_zero, List.set_cons_succ]
  refine takeW (i := 34) (d := some 185) (v := ?_) rfl rfl (by kernel_rfl) (by kernel_rfl) (by kernel_rfl) (fun _ _ _ h => h) (by rfl) ?_ (by assumption) ?_
  rotate_left
  · (intro w hSw; (try dsimp only at hSw); go_simp; try with_reducible rfl)
  try simp only [Act.put, List.setIfInBounds_toArray, List.set_cons_zero, List.set_cons_succ]
  refine wpAnyH_ready (rs := [35]) (by kernel_rfl) (by simp) ?_
  refine AllReadyH.cons rfl (fun K hK => ?_) AllReadyH.nil
  refine ite_intro (by rfl) ?_
  go_simp
  refine (AP1.out _ _ R1.out).mono ?_
  rintro e w4 ⟨rfl, b1⟩
  have S := Lib.hid (S.out.below b1)
  have R1 := Lib.hid (R1.out.later b1)
  have R2 := Lib.hid (R2.out.later b1)
  have R3 := Lib.hid (R3.out.later b1)
  have R4 := Lib.hid (R4.out.later b1)
  have HC := Lib.hid (And.intro (Nat.lt_of_lt_of_le HC.out.1 b1.size) ((b1.cell (p := ⟨bb, oo, none⟩) HC.out.1).trans HC.out.2))
  clear b1
  refine hK.out _ _ ?_ (fun hHeld => ?_)
  · exact ⟨N3d.out S.out, HC.out.2⟩
  clear hK K
  try simp only [Act.put, List.setIfInBounds_toArray, List.set_cons_zero, List.set_cons_succ]
  refine takeW (i := 36) (d := some 187) (v := ?_) rfl rfl (by kernel_rfl) (by kernel_rfl) (by kernel_rfl) (fun _ _ _ h => h) (by rfl) ?_ (by assumption) ?_
  rotate_left
  · (intro w hSw; (try dsimp only at hSw); go_simp; try with_reducible rfl)
  try simp only [Act.put, List.setIfInBounds_toArray, List.set_cons_zero, List.set_cons_succ]
  refine takeW (i := 37) (d := some 188) (v := ?_) rfl rfl (by kernel_rfl) (by kernel_rfl) (by kernel_rfl) (fun _ _ _ h => h) (by rfl) ?_ (by assumption) ?_
  rotate_left
  · (intro w hSw; (try dsimp only at hSw); go_simp; try with_reducible rfl)
  try simp only [Act.put, List.setIfInBounds_toArray, List.set_cons_zero, List.set_cons_succ]
  refine takeW (i := 38) (d := some 189) (v := ?_) rfl rfl (by kernel_rfl) (by kernel_rfl) (by kernel_rfl) (fun _ _ _ h => h) (by rfl) ?_ (by assumption) ?_
  rotate_left
  · (intro w hSw; (try dsimp only at hSw); go_simp; try with_reducible rfl)
  try simp only [Act.put, List.setIfInBounds_toArray, List.set_cons_zero, List.set_cons_succ]
  refine wpAnyH_ready (rs := [39]) (by kernel_rfl) (by simp) ?_
  refine AllReadyH.cons rfl (fun K hK => ?_) AllReadyH.nil
  refine ite_intro (by rfl) ?_
  go_simp
  refine (AP2.out _ _ R2.out).mono ?_
  rintro e w4 ⟨rfl, b1⟩
  have S := Lib.hid (S.out.below b1)
  have R1 := Lib.hid (R1.out.later b1)
  have R2 := Lib.hid (R2.out.later b1)
  have R3 := Lib.hid (R3.out.later b1)
  have R4 := Lib.hid (R4.out.later b1)
  have HC := Lib.hid (And.intro (Nat.lt_of_lt_of_le HC.out.1 b1.size) ((b1.cell (p := ⟨bb, oo, none⟩) HC.out.1).trans HC.out.2))
  clear b1
  refine hK.out _ _ ?_ (fun hHeld => ?_)
  · exact ⟨N3d.out S.out, HC.out.2⟩
  clear hK K
  try simp only [Act.put, List.setIfInBounds_toArray, List.set_cons_zero, List.set_cons_succ]
  refine takeW (i := 40) (d := some 191) (v := ?_) rfl rfl (by kernel_rfl) (by kernel_rfl) (by kernel_rfl) (fun _ _ _ h => h) (by rfl) ?_ (by assumption) ?_
  rotate_left
  · (intro w hSw; (try dsimp only at hSw); go_simp; try with_reducible rfl)
  try simp only [Act.put, List.setIfInBounds_toArray, List.set_cons_zero, List.set_cons_succ]
  refine takeW (i := 41) (d := some 192) (v := ?_) rfl rfl (by kernel_rfl) (by kernel_rfl) (by kernel_rfl) (fun _ _ _ h => h) (by rfl) ?_ (by assumption) ?_
  rotate_left
  · (intro w hSw; (try dsimp only at hSw); go_simp; try with_reducible rfl)
  try simp only [Act.put, List.setIfInBounds_toArray, List.set_cons_zero, List.set_cons_succ]
  refine takeW (i := 42) (d := some 193) (v := ?_) rfl rfl (by kernel_rfl) (by kernel_rfl) (by kernel_rfl) (fun _ _ _ h => h) (by rfl) ?_ (by assumption) ?_
  rotate_left
  · (intro w hSw; (try dsimp only at hSw); go_simp; try with_reducible rfl)
  try simp only [Act.put, List.setIfInBounds_toArray, List.set_cons_zero, List.set_cons_succ]
  refine wpAnyH_ready (rs := [43]) (by kernel_rfl) (by simp) ?_
  refine AllReadyH.cons rfl (fun K hK => ?_) AllReadyH.nil
  refine ite_intro (by rfl) ?_
  go_simp
  refine (AP3.out _ _ R3.out).mono ?_
  rintro e w4 ⟨rfl, b1⟩
  have S := Lib.hid (S.out.below b1)
  have R1 := Lib.hid (R1.out.later b1)
  have R2 := Lib.hid (R2.out.later b1)
  have R3 := Lib.hid (R3.out.later b1)
  have R4 := Lib.hid (R4.out.later b1)
  have HC := Lib.hid (And.intro (Nat.lt_of_lt_of_le HC.out.1 b1.size) ((b1.cell (p := ⟨bb, oo, none⟩) HC.out.1).trans HC.out.2))
  clear b1
  refine hK.out _ _ ?_ (fun hHeld => ?_)
  · exact ⟨N3d.out S.out, HC.out.2⟩
  clear hK K
  try simp only [Act.put, List.setIfInBounds_toArray, List.set_cons_zero, List.set_cons_succ]
  refine takeW (i := 44) (d := some 195) (v := ?_) rfl rfl (by kernel_rfl) (by kernel_rfl) (by kernel_rfl) (fun _ _ _ h => h) (by rfl) ?_ (by assumption) ?_
  rotate_left
  · (intro w hSw; (try dsimp only at hSw); go_simp; try with_reducible rfl)
  try simp only [Act.put, List.setIfInBounds_toArray, List.set_cons_zero, List.set_cons_succ]
  refine takeW (i := 45) (d := some 8) (v := ?_) rfl rfl (by kernel_rfl) (by kernel_rfl) (by kernel_rfl) (fun _ _ _ h => h) (by rfl) ?_ (by assumption) ?_
  rotate_left
  · (intro w hSw; (try dsimp only at hSw); go_simp; try with_reducible rfl)
  try simp only [Act.put, List.setIfInBounds_toArray, List.set_cons_zero, List.set_cons_succ]
  refine wpAnyH_done (by kernel_rfl) ?_ _
  go_wp2_with fail
  go_ret
  exact ⟨by simp, S.out.bel⟩

end Go.Proofs.YtlhgpeelenelbaaDoor
