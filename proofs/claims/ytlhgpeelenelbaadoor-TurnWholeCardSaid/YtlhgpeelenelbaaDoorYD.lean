/- A walk of the law TurnWhole: where some minute of the span is not there, and the minute asked is not. -/
import Derived.Test.YtlhgpeelenelbaaDoorYA
import Derived.Test.YtlhgpeelenelbaaDoorHB
import Derived.Test.YtlhgpeelenelbaaDoorYB
import Derived.Test.YtlhgpeelenelbaaDoorE7
namespace Go.Proofs.YtlhgpeelenelbaaDoor
open Go.RowKit

set_option maxHeartbeats 16000000 in
set_option maxRecDepth 100000 in
theorem whole_some_out (A A' B B' : Option Addr) (k c k' c' l d l' d' : Nat) (lo hi sm mm T1 T2 p : Int) (_x4 : Bool) (G1 G2 G3 G4 : List S2) (w : World)
    (F1 : Hid (∀ W, Calls Tryd.prog 15 #[.agg #[.slice A k c, .slice A' k' c']] W fun e w' => e = .returned (.bool true) ∧ Below W.heap.size W w'))
    (F2 : Hid (∀ W, Calls Tryd.prog 15 #[.agg #[.slice B l d, .slice B' l' d']] W fun e w' => e = .returned (.bool true) ∧ Below W.heap.size W w'))
    (F3 : Hid (∀ W, Calls Tryd.prog 58 #[sv2 lo hi] W fun e w' => e = .returned (.bool true) ∧ Below W.heap.size W w'))
    (HS : Hid (∀ W, Calls Tryd.prog 16 #[] W fun e w' => e = .returned (.bool true) ∧ Below W.heap.size W w'))
    (C1 : Hid (∀ W, N3d w (.slice A k c) (.slice A' k' c') (.slice B l d) (.slice B' l' d') (.int .i64 lo) (.int .i64 hi) W → Calls Tryd.prog 38 #[.agg #[.slice A k c, .slice A' k' c'], sv2 lo hi] W fun e w' => ∃ v, e = .returned (.tuple #[v, .int .i64 0]) ∧ RS w'.heap.size v G1 w' ∧ Below W.heap.size W w'))
    (C2 : Hid (∀ W, N3d w (.slice A k c) (.slice A' k' c') (.slice B l d) (.slice B' l' d') (.int .i64 lo) (.int .i64 hi) W → Calls Tryd.prog 40 #[.agg #[.slice A k c, .slice A' k' c'], sv2 lo hi] W fun e w' => ∃ v, e = .returned (.tuple #[v, .int .i64 0]) ∧ RS w'.heap.size v G2 w' ∧ Below W.heap.size W w'))
    (C3 : Hid (∀ W, N3d w (.slice A k c) (.slice A' k' c') (.slice B l d) (.slice B' l' d') (.int .i64 lo) (.int .i64 hi) W → Calls Tryd.prog 59 #[.agg #[.slice A k c, .slice A' k' c'], .agg #[.slice B l d, .slice B' l' d'], sv2 lo hi] W fun e w' => ∃ v, e = .returned (.tuple #[v, .int .i64 0]) ∧ RS w'.heap.size v G3 w' ∧ Below W.heap.size W w'))
    (C4 : Hid (∀ W, N3d w (.slice A k c) (.slice A' k' c') (.slice B l d) (.slice B' l' d') (.int .i64 lo) (.int .i64 hi) W → Calls Tryd.prog 38 #[.agg #[.slice B l d, .slice B' l' d'], sv2 lo hi] W fun e w' => ∃ v, e = .returned (.tuple #[v, .int .i64 0]) ∧ RS w'.heap.size v G4 w' ∧ Below W.heap.size W w'))
    (C5 : Hid (∀ W, N3d w (.slice A k c) (.slice A' k' c') (.slice B l d) (.slice B' l' d') (.int .i64 lo) (.int .i64 hi) W → Calls Tryd.prog 56 #[.agg #[.slice A k c, .slice A' k' c'], sv2 lo hi] W fun e w' => e = .returned (.tuple #[.int .i64 T1, .int .i64 0]) ∧ Below W.heap.size W w'))
    (C6 : Hid (∀ W, N3d w (.slice A k c) (.slice A' k' c') (.slice B l d) (.slice B' l' d') (.int .i64 lo) (.int .i64 hi) W → Calls Tryd.prog 60 #[.agg #[.slice A k c, .slice A' k' c'], sv2 lo hi] W fun e w' => e = .returned (.tuple #[.int .i64 p, .bool false, .int .i64 0]) ∧ Below W.heap.size W w'))
    (HA : Hid (∀ W, N3d w (.slice A k c) (.slice A' k' c') (.slice B l d) (.slice B' l' d') (.int .i64 lo) (.int .i64 hi) W → Calls Tryd.prog 55 #[.agg #[.slice A k c, .slice A' k' c'], .int .i64 mm] W fun e w' => e = .returned (.bool false) ∧ Below W.heap.size W w'))
    (LG1 : Hid (∀ v W, RS W.heap.size v G1 W → Calls Tryd.prog 61 #[v] W fun e w' => e = .returned (.int .i64 T1) ∧ Below W.heap.size W w'))
    (LG2 : Hid (∀ v W, RS W.heap.size v G2 W → Calls Tryd.prog 61 #[v] W fun e w' => e = .returned (.int .i64 T2) ∧ Below W.heap.size W w'))
    (IN1 : Hid (∀ v W, RS W.heap.size v G1 W → Calls Tryd.prog 62 #[v, .int .i64 mm] W fun e w' => e = .returned (.bool false) ∧ Below W.heap.size W w'))
    (IN2 : Hid (∀ v W, RS W.heap.size v G2 W → Calls Tryd.prog 62 #[v, .int .i64 mm] W fun e w' => e = .returned (.bool true) ∧ Below W.heap.size W w'))
    (IN3 : Hid (∀ v W, RS W.heap.size v G3 W → Calls Tryd.prog 62 #[v, .int .i64 mm] W fun e w' => e = .returned (.bool false) ∧ Below W.heap.size W w'))
    (AP1 : Hid (∀ v W, RS W.heap.size v G1 W → Calls Tryd.prog 63 #[v] W fun e w' => e = .returned (.bool true) ∧ Below W.heap.size W w'))
    (AP2 : Hid (∀ v W, RS W.heap.size v G2 W → Calls Tryd.prog 63 #[v] W fun e w' => e = .returned (.bool true) ∧ Below W.heap.size W w'))
    (AP3 : Hid (∀ v W, RS W.heap.size v G3 W → Calls Tryd.prog 63 #[v] W fun e w' => e = .returned (.bool true) ∧ Below W.heap.size W w'))
    (s0 : 0 ≤ sm) (s1 : sm ≤ 65535) (b0 : 0 ≤ lo) (b1 : lo ≤ hi) (b2 : hi ≤ 1048576) (hT : T1 + T2 = hi - lo + 1) (hmm : mm = lo + sm % (hi - lo + 1))
    (x0 : S2) (gl : List S2) (hG : G2 = x0 :: gl) (hp : p = x0.1) :
    Calls Tryd.prog 12 #[.agg #[.slice A k c, .slice A' k' c'], .agg #[.slice B l d, .slice B' l' d'], sv2 lo hi, .int .u16 sm] w fun e w' => e = .returned (.bool true) ∧ Below w.heap.size w w' := by
  have S0 := Lib.hid (N3d.new (w := w) (v0 := .slice A k c) (v1 := .slice A' k' c') (u0 := .slice B l d) (u1 := .slice B' l' d') (z0 := .int .i64 lo) (z1 := .int .i64 hi) 25 25 49)
  obtain ⟨dx, hdx⟩ : ∃ dx, hi - lo + 1 = dx := ⟨_, rfl⟩
  rw [hdx] at hT hmm
  subst hmm
  have X1 : IntKind.i64.wrap (hi - lo) = hi - lo := IntWalk.i64_in _ (by omega)
  have X2 : IntKind.i64.wrap (hi - lo + 1) = dx := by rw [hdx]; exact IntWalk.i64_in _ (by omega)
  have X3 : IntKind.i64.wrap (T1 + T2) = dx := by rw [hT]; exact IntWalk.i64_in _ (by omega)
  have XA : ¬ dx = 0 := by omega
  have XE : (dx == 0) = false := beq_eq_false_iff_ne.2 (by omega)
  have XB : IntKind.i64.wrap sm = sm := IntWalk.i64_in _ (by omega)
  have XC : sm.tmod dx = sm % dx := Int.tmod_eq_emod_of_nonneg (by omega)
  have XD : 0 ≤ sm % dx := Int.emod_nonneg _ (by omega)
  have XF : sm % dx < dx := Int.emod_lt_of_pos _ (by omega)
  have XG : IntKind.i64.wrap (sm % dx) = sm % dx := IntWalk.i64_in _ (by omega)
  obtain ⟨mm, hmm⟩ : ∃ mm, lo + sm % dx = mm := ⟨_, rfl⟩
  have X9 : IntKind.i64.wrap (lo + sm % dx) = mm := by rw [← hmm]; exact IntWalk.i64_in _ (by omega)
  rw [hmm] at HA IN1 IN2 IN3
  clear hdx hT XD XF b0 b1 b2 s0 s1 hmm
  obtain ⟨x01, x02⟩ := x0
  simp only at hp
  subst hp
  have HG := Lib.hid hG
  clear hG
  go_enter Tryd.func12, Tryd.ntmps12
  go_wp2_with fail
  refine (F1.out _).mono ?_
  rintro e w1 ⟨rfl, h1⟩
  have S := Lib.hid (S0.out.below h1)
  clear h1 S0 F1
  obtain ⟨t0, t1, t2, t3, t4, t5, t6, _⟩ := S.out.out
  go_wp2_with fail
  refine (F2.out _).mono ?_
  rintro e w1 ⟨rfl, h1⟩
  have S := Lib.hid (S.out.below h1)
  clear h1 t0 t1 t2 t3 t4 t5 t6 F2
  obtain ⟨t0, t1, t2, t3, t4, t5, t6, _⟩ := S.out.out
  go_wp2_with fail
  refine (F3.out _).mono ?_
  rintro e w1 ⟨rfl, h1⟩
  have S := Lib.hid (S.out.below h1)
  clear h1 t0 t1 t2 t3 t4 t5 t6 F3
  obtain ⟨t0, t1, t2, t3, t4, t5, t6, _⟩ := S.out.out
  go_wp2_with fail
  refine (C1.out _ S.out).mono ?_
  rintro e w3 ⟨v1, rfl, r1, b1⟩
  have S := Lib.hid (S.out.below b1)
  have R1 := Lib.hid r1
  clear r1 b1 t0 t1 t2 t3 t4 t5 t6 C1
  obtain ⟨t0, t1, t2, t3, t4, t5, t6, _⟩ := S.out.out
  go_wp2_with fail
  refine (C2.out _ S.out).mono ?_
  rintro e w3 ⟨v2, rfl, r2, b1⟩
  have S := Lib.hid (S.out.below b1)
  have R1 := Lib.hid (R1.out.later b1)
  rw [HG.out] at r2
  obtain ⟨bb, oo, nb, cq, rfl, hnb, hbb, hcell⟩ := RS.head r2
  have HC := Lib.hid (And.intro hbb hcell)
  have hnb0 : ((nb : Int) == 0) = false := beq_eq_false_iff_ne.2 (by omega)
  have hnbN : 0 < nb := by omega
  clear hbb hcell
  rw [← HG.out] at r2
  have R2 := Lib.hid r2
  clear r2 b1 t0 t1 t2 t3 t4 t5 t6 C2
  obtain ⟨t0, t1, t2, t3, t4, t5, t6, _⟩ := S.out.out
  go_wp2_with fail
  refine (C3.out _ S.out).mono ?_
  rintro e w3 ⟨v3, rfl, r3, b1⟩
  have S := Lib.hid (S.out.below b1)
  have R1 := Lib.hid (R1.out.later b1)
  have R2 := Lib.hid (R2.out.later b1)
  have HC := Lib.hid (And.intro (Nat.lt_of_lt_of_le HC.out.1 b1.size) ((b1.cell (p := ⟨bb, oo, none⟩) HC.out.1).trans HC.out.2))
  have R3 := Lib.hid r3
  clear r3 b1 t0 t1 t2 t3 t4 t5 t6 C3
  obtain ⟨t0, t1, t2, t3, t4, t5, t6, _⟩ := S.out.out
  go_wp2_with fail
  refine (C4.out _ S.out).mono ?_
  rintro e w3 ⟨v4, rfl, r4, b1⟩
  have S := Lib.hid (S.out.below b1)
  have R1 := Lib.hid (R1.out.later b1)
  have R2 := Lib.hid (R2.out.later b1)
  have R3 := Lib.hid (R3.out.later b1)
  have HC := Lib.hid (And.intro (Nat.lt_of_lt_of_le HC.out.1 b1.size) ((b1.cell (p := ⟨bb, oo, none⟩) HC.out.1).trans HC.out.2))
  have R4 := Lib.hid r4
  clear r4 b1 t0 t1 t2 t3 t4 t5 t6 C4
  obtain ⟨t0, t1, t2, t3, t4, t5, t6, _⟩ := S.out.out
  go_wp2_with fail
  refine (C5.out _ S.out).mono ?_
  rintro e w4 ⟨rfl, b1⟩
  have S := Lib.hid (S.out.below b1)
  have R1 := Lib.hid (R1.out.later b1)
  have R2 := Lib.hid (R2.out.later b1)
  have R3 := Lib.hid (R3.out.later b1)
  have R4 := Lib.hid (R4.out.later b1)
  have HC := Lib.hid (And.intro (Nat.lt_of_lt_of_le HC.out.1 b1.size) ((b1.cell (p := ⟨bb, oo, none⟩) HC.out.1).trans HC.out.2))
  clear b1 t0 t1 t2 t3 t4 t5 t6 C5
  obtain ⟨t0, t1, t2, t3, t4, t5, t6, _⟩ := S.out.out
  go_wp2_with fail
  refine (C6.out _ S.out).mono ?_
  rintro e w4 ⟨rfl, b1⟩
  have S := Lib.hid (S.out.below b1)
  have R1 := Lib.hid (R1.out.later b1)
  have R2 := Lib.hid (R2.out.later b1)
  have R3 := Lib.hid (R3.out.later b1)
  have R4 := Lib.hid (R4.out.later b1)
  have HC := Lib.hid (And.intro (Nat.lt_of_lt_of_le HC.out.1 b1.size) ((b1.cell (p := ⟨bb, oo, none⟩) HC.out.1).trans HC.out.2))
  clear b1 t0 t1 t2 t3 t4 t5 t6 C6
  obtain ⟨t0, t1, t2, t3, t4, t5, t6, _⟩ := S.out.out
  go_wp2_with fail
  have S := Lib.hid (S.out.drew)
  have bd : Below w4.heap.size w4 w4.drew := (Below.refl _ _).drew
  have R1 := Lib.hid (R1.out.later bd)
  have R2 := Lib.hid (R2.out.later bd)
  have R3 := Lib.hid (R3.out.later bd)
  have R4 := Lib.hid (R4.out.later bd)
  have HC : Hid (bb < w4.drew.heap.size ∧ w4.drew.cell? ⟨bb, oo, none⟩ = some (.int .i64 p)) := Lib.hid HC.out
  clear bd
  refine wp_region_held_drew (S := fun W => N3 w (.slice A k c) (.slice A' k' c') (.slice B l d) (.slice B' l' d') (.int .i64 lo) (.int .i64 hi) W ∧ W.cell? ⟨bb, oo, none⟩ = some (.int .i64 p)) (by kernel_rfl) ?_ (fun hHeld => ?_)
  · exact ⟨N3d.out S.out, HC.out.2⟩
  refine takeW (i := 0) (d := some 94) (v := ?_) rfl rfl (by kernel_rfl) (by kernel_rfl) (by kernel_rfl) (fun _ _ _ h => h) (by rfl) ?_ (by assumption) ?_
  rotate_left
  · (intro w hSw; (try dsimp only at hSw); go_simp; try with_reducible rfl)
  try simp only [Act.put, List.setIfInBounds_toArray, List.set_cons_zero, List.set_cons_succ]
  refine takeW (i := 1) (d := some 95) (v := ?_) rfl rfl (by kernel_rfl) (by kernel_rfl) (by kernel_rfl) (fun _ _ _ h => h) (by rfl) ?_ (by assumption) ?_
  rotate_left
  · (intro w hSw; (try dsimp only at hSw); go_simp; try with_reducible rfl)
  try simp only [Act.put, List.setIfInBounds_toArray, List.set_cons_zero, List.set_cons_succ]
  refine takeW (i := 2) (d := some 96) (v := ?_) rfl rfl (by kernel_rfl) (by kernel_rfl) (by kernel_rfl) (fun _ _ _ h => h) (by rfl) ?_ (by assumption) ?_
  rotate_left
  · (intro w hSw; (try dsimp only at hSw); go_simp; try with_reducible rfl)
  try simp only [Act.put, List.setIfInBounds_toArray, List.set_cons_zero, List.set_cons_succ]
  refine takeW (i := 3) (d := some 97) (v := ?_) rfl rfl (by kernel_rfl) (by kernel_rfl) (by kernel_rfl) (fun _ _ _ h => h) (by rfl) ?_ (by assumption) ?_
  rotate_left
  · (intro w hSw; (try dsimp only at hSw); go_simp; try with_reducible rfl)
  try simp only [Act.put, List.setIfInBounds_toArray, List.set_cons_zero, List.set_cons_succ]
  refine takeW (i := 4) (d := some 98) (v := ?_) rfl rfl (by kernel_rfl) (by kernel_rfl) (by kernel_rfl) (fun _ _ _ h => h) (by rfl) ?_ (by assumption) ?_
  rotate_left
  · (intro w hSw; (try dsimp only at hSw); go_simp; try with_reducible rfl)
  try simp only [Act.put, List.setIfInBounds_toArray, List.set_cons_zero, List.set_cons_succ]
  refine takeW (i := 5) (d := some 99) (v := ?_) rfl rfl (by kernel_rfl) (by kernel_rfl) (by kernel_rfl) (fun _ _ _ h => h) (by rfl) ?_ (by assumption) ?_
  rotate_left
  · (intro w hSw; (try dsimp only at hSw); go_simp; try with_reducible rfl)
  try simp only [Act.put, List.setIfInBounds_toArray, List.set_cons_zero, List.set_cons_succ]
  refine takeW (i := 6) (d := some 100) (v := ?_) rfl rfl (by kernel_rfl) (by kernel_rfl) (by kernel_rfl) (fun _ _ _ h => h) (by rfl) ?_ (by assumption) ?_
  rotate_left
  · (intro w hSw; (try dsimp only at hSw); go_simp; try with_reducible rfl)
  try simp only [Act.put, List.setIfInBounds_toArray, List.set_cons_zero, List.set_cons_succ]
  refine takeW (i := 7) (d := some 101) (v := ?_) rfl rfl (by kernel_rfl) (by kernel_rfl) (by kernel_rfl) (fun _ _ _ h => h) (by rfl) ?_ (by assumption) ?_
  rotate_left
  · (intro w hSw; (try dsimp only at hSw); go_simp; try with_reducible rfl)
  try simp only [Act.put, List.setIfInBounds_toArray, List.set_cons_zero, List.set_cons_succ]
  refine takeW (i := 9) (d := some 103) (v := ?_) rfl rfl (by kernel_rfl) (by kernel_rfl) (by kernel_rfl) (fun _ _ _ h => h) (by rfl) ?_ (by assumption) ?_
  rotate_left
  · (intro w hSw; (try dsimp only at hSw); go_simp; try with_reducible rfl)
  try simp only [Act.put, List.setIfInBounds_toArray, List.set_cons_zero, List.set_cons_succ]
  refine wpAnyH_ready (rs := [8]) (by kernel_rfl) (by simp) ?_
  refine AllReadyH.cons rfl (fun K hK => ?_) AllReadyH.nil
  refine ite_intro (by rfl) ?_
  go_simp
  refine (LG1.out _ _ R1.out).mono ?_
  rintro e w4 ⟨rfl, b1⟩
  have S := Lib.hid (S.out.below b1)
  have R1 := Lib.hid (R1.out.later b1)
  have R2 := Lib.hid (R2.out.later b1)
  have R3 := Lib.hid (R3.out.later b1)
  have R4 := Lib.hid (R4.out.later b1)
  have HC := Lib.hid (And.intro (Nat.lt_of_lt_of_le HC.out.1 b1.size) ((b1.cell (p := ⟨bb, oo, none⟩) HC.out.1).trans HC.out.2))
  clear b1
  refine hK.out _ _ ?_ (fun hHeld => ?_)
  · exact ⟨N3d.out S.out, HC.out.2⟩
  clear hK K
  try simp only [Act.put, List.setIfInBounds_toArray, List.set_cons_zero, List.set_cons_succ]
  refine takeW (i := 10) (d := some 104) (v := ?_) rfl rfl (by kernel_rfl) (by kernel_rfl) (by kernel_rfl) (fun _ _ _ h => h) (by rfl) ?_ (by assumption) ?_
  rotate_left
  · (intro w hSw; (try dsimp only at hSw); go_simp; try with_reducible rfl)
  try simp only [Act.put, List.setIfInBounds_toArray, List.set_cons_zero, List.set_cons_succ]
  refine takeW (i := 11) (d := some 105) (v := ?_) rfl rfl (by kernel_rfl) (by kernel_rfl) (by kernel_rfl) (fun _ _ _ h => h) (by rfl) ?_ (by assumption) ?_
  rotate_left
  · (intro w hSw; (try dsimp only at hSw); go_simp; try with_reducible rfl)
  try simp only [Act.put, List.setIfInBounds_toArray, List.set_cons_zero, List.set_cons_succ]
  refine takeW (i := 12) (d := some 106) (v := ?_) rfl rfl (by kernel_rfl) (by kernel_rfl) (by kernel_rfl) (fun _ _ _ h => h) (by rfl) ?_ (by assumption) ?_
  rotate_left
  · (intro w hSw; (try dsimp only at hSw); go_simp; try with_reducible rfl)
  try simp only [Act.put, List.setIfInBounds_toArray, List.set_cons_zero, List.set_cons_succ]
  refine takeW (i := 13) (d := some 107) (v := ?_) rfl rfl (by kernel_rfl) (by kernel_rfl) (by kernel_rfl) (fun _ _ _ h => h) (by rfl) ?_ (by assumption) ?_
  rotate_left
  · (intro w hSw; (try dsimp only at hSw); go_simp; try with_reducible rfl)
  try simp only [Act.put, List.setIfInBounds_toArray, List.set_cons_zero, List.set_cons_succ]
  refine takeW (i := 15) (d := some 109) (v := ?_) rfl rfl (by kernel_rfl) (by kernel_rfl) (by kernel_rfl) (fun _ _ _ h => h) (by rfl) ?_ (by assumption) ?_
  rotate_left
  · (intro w hSw; (try dsimp only at hSw); go_simp; try with_reducible rfl)
  try simp only [Act.put, List.setIfInBounds_toArray, List.set_cons_zero, List.set_cons_succ]
  refine takeW (i := 18) (d := some 112) (v := ?_) rfl rfl (by kernel_rfl) (by kernel_rfl) (by kernel_rfl) (fun _ _ _ h => h) (by rfl) ?_ (by assumption) ?_
  rotate_left
  · (intro w hSw; (try dsimp only at hSw); go_simp; try with_reducible rfl)
  try simp only [Act.put, List.setIfInBounds_toArray, List.set_cons_zero, List.set_cons_succ]
  refine takeW (i := 19) (d := some 113) (v := ?_) rfl rfl (by kernel_rfl) (by kernel_rfl) (by kernel_rfl) (fun _ _ _ h => h) (by rfl) ?_ (by assumption) ?_
  rotate_left
  · (intro w hSw; (try dsimp only at hSw); go_simp; try with_reducible rfl)
  try simp only [Act.put, List.setIfInBounds_toArray, List.set_cons_zero, List.set_cons_succ]
  refine takeW (i := 20) (d := some 114) (v := ?_) rfl rfl (by kernel_rfl) (by kernel_rfl) (by kernel_rfl) (fun _ _ _ h => h) (by rfl) ?_ (by assumption) ?_
  rotate_left
  · (intro w hSw; (try dsimp only at hSw); go_simp; try with_reducible rfl)
  try simp only [Act.put, List.setIfInBounds_toArray, List.set_cons_zero, List.set_cons_succ]
  refine takeW (i := 21) (d := some 115) (v := ?_) rfl rfl (by kernel_rfl) (by kernel_rfl) (by kernel_rfl) (fun _ _ _ h => h) (by rfl) ?_ (by assumption) ?_
  rotate_left
  · (intro w hSw; (try dsimp only at hSw); go_simp; try with_reducible rfl)
  try simp only [Act.put, List.setIfInBounds_toArray, List.set_cons_zero, List.set_cons_succ]
  refine takeW (i := 22) (d := some 116) (v := ?_) rfl rfl (by kernel_rfl) (by kernel_rfl) (by kernel_rfl) (fun _ _ _ h => h) (by rfl) ?_ (by assumption) ?_
  rotate_left
  · (intro w hSw; (try dsimp only at hSw); go_simp; try with_reducible rfl)
  try simp only [Act.put, List.setIfInBounds_toArray, List.set_cons_zero, List.set_cons_succ]
  refine takeW (i := 23) (d := some 117) (v := ?_) rfl rfl (by kernel_rfl) (by kernel_rfl) (by kernel_rfl) (fun _ _ _ h => h) (by rfl) ?_ (by assumption) ?_
  rotate_left
  · (intro w hSw; (try dsimp only at hSw); go_simp; try with_reducible rfl)
  try simp only [Act.put, List.setIfInBounds_toArray, List.set_cons_zero, List.set_cons_succ]
  refine wpAnyH_ready (rs := [14]) (by kernel_rfl) (by simp) ?_
  refine AllReadyH.cons rfl (fun K hK => ?_) AllReadyH.nil
  refine ite_intro (by rfl) ?_
  go_simp
  refine (LG1.out _ _ R1.out).mono ?_
  rintro e w4 ⟨rfl, b1⟩
  have S := Lib.hid (S.out.below b1)
  have R1 := Lib.hid (R1.out.later b1)
  have R2 := Lib.hid (R2.out.later b1)
  have R3 := Lib.hid (R3.out.later b1)
  have R4 := Lib.hid (R4.out.later b1)
  have HC := Lib.hid (And.intro (Nat.lt_of_lt_of_le HC.out.1 b1.size) ((b1.cell (p := ⟨bb, oo, none⟩) HC.out.1).trans HC.out.2))
  clear b1
  refine hK.out _ _ ?_ (fun hHeld => ?_)
  · exact ⟨N3d.out S.out, HC.out.2⟩
  clear hK K
  try simp only [Act.put, List.setIfInBounds_toArray, List.set_cons_zero, List.set_cons_succ]
  refine wpAnyH_ready (rs := [16]) (by kernel_rfl) (by simp) ?_
  refine AllReadyH.cons rfl (fun K hK => ?_) AllReadyH.nil
  refine ite_intro (by rfl) ?_
  go_simp
  refine (LG2.out _ _ R2.out).mono ?_
  rintro e w4 ⟨rfl, b1⟩
  have S := Lib.hid (S.out.below b1)
  have R1 := Lib.hid (R1.out.later b1)
  have R2 := Lib.hid (R2.out.later b1)
  have R3 := Lib.hid (R3.out.later b1)
  have R4 := Lib.hid (R4.out.later b1)
  have HC := Lib.hid (And.intro (Nat.lt_of_lt_of_le HC.out.1 b1.size) ((b1.cell (p := ⟨bb, oo, none⟩) HC.out.1).trans HC.out.2))
  clear b1
  refine hK.out _ _ ?_ (fun hHeld => ?_)
  · exact ⟨N3d.out S.out, HC.out.2⟩
  clear hK K
  try simp only [Act.put, List.setIfInBounds_toArray, List.set_cons_zero, List.set_cons_succ]
  refine takeW (i := 17) (d := some 111) (v := ?_) rfl rfl (by kernel_rfl) (by kernel_rfl) (by kernel_rfl) (fun _ _ _ h => h) (by rfl) ?_ (by assumption) ?_
  rotate_left
  · (intro w hSw; (try dsimp only at hSw); go_simp; try with_reducible rfl)
  try simp only [Act.put, List.setIfInBounds_toArray, List.set_cons_zero, List.set_cons_succ]
  refine takeW (i := 24) (d := some 118) (v := ?_) rfl rfl (by kernel_rfl) (by kernel_rfl) (by kernel_rfl) (fun _ _ _ h => h) (by rfl) ?_ (by assumption) ?_
  rotate_left
  · (intro w hSw; (try dsimp only at hSw); go_simp; try with_reducible rfl)
  try simp only [Act.put, List.setIfInBounds_toArray, List.set_cons_zero, List.set_cons_succ]
  refine takeW (i := 25) (d := some 119) (v := ?_) rfl rfl (by kernel_rfl) (by kernel_rfl) (by kernel_rfl) (fun _ _ _ h => h) (by rfl) ?_ (by assumption) ?_
  rotate_left
  · (intro w hSw; (try dsimp only at hSw); go_simp; try with_reducible rfl)
  try simp only [Act.put, List.setIfInBounds_toArray, List.set_cons_zero, List.set_cons_succ]
  refine takeW (i := 26) (d := some 120) (v := ?_) rfl rfl (by kernel_rfl) (by kernel_rfl) (by kernel_rfl) (fun _ _ _ h => h) (by rfl) ?_ (by assumption) ?_
  rotate_left
  · (intro w hSw; (try dsimp only at hSw); go_simp; try with_reducible rfl)
  try simp only [Act.put, List.setIfInBounds_toArray, List.set_cons_zero, List.set_cons_succ]
  refine takeW (i := 27) (d := some 121) (v := ?_) rfl rfl (by kernel_rfl) (by kernel_rfl) (by kernel_rfl) (fun _ _ _ h => h) (by rfl) ?_ (by assumption) ?_
  rotate_left
  · (intro w hSw; (try dsimp only at hSw); go_simp; try with_reducible rfl)
  try simp only [Act.put, List.setIfInBounds_toArray, List.set_cons_zero, List.set_cons_succ]
  refine takeW (i := 28) (d := some 122) (v := ?_) rfl rfl (by kernel_rfl) (by kernel_rfl) (by kernel_rfl) (fun _ _ _ h => h) (by rfl) ?_ (by assumption) ?_
  rotate_left
  · (intro w hSw; (try dsimp only at hSw); go_simp; try with_reducible rfl)
  try simp only [Act.put, List.setIfInBounds_toArray, List.set_cons_zero, List.set_cons_succ]
  refine takeW (i := 29) (d := some 123) (v := ?_) rfl rfl (by kernel_rfl) (by kernel_rfl) (by kernel_rfl) (fun _ _ _ h => h) (by rfl) ?_ (by assumption) ?_
  rotate_left
  · (intro w hSw; (try dsimp only at hSw); go_simp; try with_reducible rfl)
  try simp only [Act.put, List.setIfInBounds_toArray, List.set_cons_zero, List.set_cons_succ]
  refine takeW (i := 30) (d := some 124) (v := ?_) rfl rfl (by kernel_rfl) (by kernel_rfl) (by kernel_rfl) (fun _ _ _ h => h) (by rfl) ?_ (by assumption) ?_
  rotate_left
  · (intro w hSw; (try dsimp only at hSw); go_simp; try with_reducible rfl)
  try simp only [Act.put, List.setIfInBounds_toArray, List.set_cons_zero, List.set_cons_succ]
  refine takeW (i := 31) (d := some 125) (v := ?_) rfl rfl (by kernel_rfl) (by kernel_rfl) (by kernel_rfl) (fun _ _ _ h => h) (by rfl) ?_ (by assumption) ?_
  rotate_left
  · (intro w hSw; (try dsimp only at hSw); go_simp; try with_reducible rfl)
  try simp only [Act.put, List.setIfInBounds_toArray, List.set_cons_zero, List.set_cons_succ]
  refine takeW (i := 32) (d := some 126) (v := ?_) rfl rfl (by kernel_rfl) (by kernel_rfl) (by kernel_rfl) (fun _ _ _ h => h) (by rfl) ?_ (by assumption) ?_
  rotate_left
  · (intro w hSw; (try dsimp only at hSw); go_simp; try with_reducible rfl)
  try simp only [Act.put, List.setIfInBounds_toArray, List.set_cons_zero, List.set_cons_succ]
  refine takeW (i := 33) (d := some 127) (v := ?_) rfl rfl (by kernel_rfl) (by kernel_rfl) (by kernel_rfl) (fun _ _ _ h => h) (by rfl) ?_ (by assumption) ?_
  rotate_left
  · (intro w hSw; (try dsimp only at hSw); go_simp; try with_reducible rfl)
  try simp only [Act.put, List.setIfInBounds_toArray, List.set_cons_zero, List.set_cons_succ]
  refine takeW (i := 34) (d := some 128) (v := ?_) rfl rfl (by kernel_rfl) (by kernel_rfl) (by kernel_rfl) (fun _ _ _ h => h) (by rfl) ?_ (by assumption) ?_
  rotate_left
  · (intro w hSw; (try dsimp only at hSw); go_simp; try with_reducible rfl)
  try simp only [Act.put, List.setIfInBounds_toArray, List.set_cons_zero, List.set_cons_succ]
  refine takeW (i := 35) (d := some 129) (v := ?_) rfl rfl (by kernel_rfl) (by kernel_rfl) (by kernel_rfl) (fun _ _ _ h => h) (by rfl) ?_ (by assumption) ?_
  rotate_left
  · (intro w hSw; (try dsimp only at hSw); go_simp; try with_reducible rfl)
  try simp only [Act.put, List.setIfInBounds_toArray, List.set_cons_zero, List.set_cons_succ]
  refine takeW (i := 36) (d := some 130) (v := ?_) rfl rfl (by kernel_rfl) (by kernel_rfl) (by kernel_rfl) (fun _ _ _ h => h) (by rfl) ?_ (by assumption) ?_
  rotate_left
  · (intro w hSw; (try dsimp only at hSw); go_simp; try with_reducible rfl)
  try simp only [Act.put, List.setIfInBounds_toArray, List.set_cons_zero, List.set_cons_succ]
  refine takeW (i := 37) (d := some 131) (v := ?_) rfl rfl (by kernel_rfl) (by kernel_rfl) (by kernel_rfl) (fun _ _ _ h => h) (by rfl) ?_ (by assumption) ?_
  rotate_left
  · (intro w hSw; (try dsimp only at hSw); go_simp; try with_reducible rfl)
  try simp only [Act.put, List.setIfInBounds_toArray, List.set_cons_zero, List.set_cons_succ]
  refine takeW (i := 38) (d := some 132) (v := ?_) rfl rfl (by kernel_rfl) (by kernel_rfl) (by kernel_rfl) (fun _ _ _ h => h) (by rfl) ?_ (by assumption) ?_
  rotate_left
  · (intro w hSw; (try dsimp only at hSw); go_simp; try with_reducible rfl)
  try simp only [Act.put, List.setIfInBounds_toArray, List.set_cons_zero, List.set_cons_succ]
  refine takeW (i := 39) (d := some 133) (v := ?_) rfl rfl (by kernel_rfl) (by kernel_rfl) (by kernel_rfl) (fun _ _ _ h => h) (by rfl) ?_ (by assumption) ?_
  rotate_left
  · (intro w hSw; (try dsimp only at hSw); go_simp; try with_reducible rfl)
  try simp only [Act.put, List.setIfInBounds_toArray, List.set_cons_zero, List.set_cons_succ]
  refine takeW (i := 40) (d := some 134) (v := ?_) rfl rfl (by kernel_rfl) (by kernel_rfl) (by kernel_rfl) (fun _ _ _ h => h) (by rfl) ?_ (by assumption) ?_
  rotate_left
  · (intro w hSw; (try dsimp only at hSw); go_simp; try with_reducible rfl)
  try simp only [Act.put, List.setIfInBounds_toArray, List.set_cons_zero, List.set_cons_succ]
  refine takeW (i := 41) (d := some 135) (v := ?_) rfl rfl (by kernel_rfl) (by kernel_rfl) (by kernel_rfl) (fun _ _ _ h => h) (by rfl) ?_ (by assumption) ?_
  rotate_left
  · (intro w hSw; (try dsimp only at hSw); go_simp; try with_reducible rfl)
  try simp only [Act.put, List.setIfInBounds_toArray, List.set_cons_zero, List.set_cons_succ]
  refine takeW (i := 42) (d := some 136) (v := ?_) rfl rfl (by kernel_rfl) (by kernel_rfl) (by kernel_rfl) (fun _ _ _ h => h) (by rfl) ?_ (by assumption) ?_
  rotate_left
  · (intro w hSw; (try dsimp only at hSw); go_simp; try with_reducible rfl)
  try simp only [Act.put, List.setIfInBounds_toArray, List.set_cons_zero, List.set_cons_succ]
  refine takeW (i := 43) (d := some 137) (v := ?_) rfl rfl (by kernel_rfl) (by kernel_rfl) (by kernel_rfl) (fun _ _ _ h => h) (by rfl) ?_ (by assumption) ?_
  rotate_left
  · (intro w hSw; (try dsimp only at hSw); go_simp; try with_reducible rfl)
  try simp only [Act.put, List.setIfInBounds_toArray, List.set_cons_zero, List.set_cons_succ]
  refine takeW (i := 44) (d := some 138) (v := ?_) rfl rfl (by kernel_rfl) (by kernel_rfl) (by kernel_rfl) (fun _ _ _ h => h) (by rfl) ?_ (by assumption) ?_
  rotate_left
  · (intro w hSw; (try dsimp only at hSw); go_simp; try with_reducible rfl)
  try simp only [Act.put, List.setIfInBounds_toArray, List.set_cons_zero, List.set_cons_succ]
  refine wpAnyH_done (by kernel_rfl) ?_ _
  clear t0 t1 t2 t3 t4 t5 t6
  obtain ⟨t0, t1, t2, t3, t4, t5, t6, _⟩ := S.out.out
  go_wp2_with fail
  have S := Lib.hid (S.out.drew)
  have bd : Below w4.heap.size w4 w4.drew := (Below.refl _ _).drew
  have R1 := Lib.hid (R1.out.later bd)
  have R2 := Lib.hid (R2.out.later bd)
  have R3 := Lib.hid (R3.out.later bd)
  have R4 := Lib.hid (R4.out.later bd)
  have HC : Hid (bb < w4.drew.heap.size ∧ w4.drew.cell? ⟨bb, oo, none⟩ = some (.int .i64 p)) := Lib.hid HC.out
  clear bd
  refine wp_region_held_drew (S := fun W => N3 w (.slice A k c) (.slice A' k' c') (.slice B l d) (.slice B' l' d') (.int .i64 lo) (.int .i64 hi) W ∧ W.cell? ⟨bb, oo, none⟩ = some (.int .i64 p)) (by kernel_rfl) ?_ (fun hHeld => ?_)
  · exact ⟨N3d.out S.out, HC.out.2⟩
  refine takeW (i := 0) (d := some 139) (v := ?_) rfl rfl (by kernel_rfl) (by kernel_rfl) (by kernel_rfl) (fun _ _ _ h => h) (by rfl) ?_ (by assumption) ?_
  rotate_left
  · (intro w hSw; (try dsimp only at hSw); go_simp; try with_reducible rfl)
  try simp only [Act.put, List.setIfInBounds_toArray, List.set_cons_zero, List.set_cons_succ]
  refine takeW (i := 1) (d := some 140) (v := ?_) rfl rfl (by kernel_rfl) (by kernel_rfl) (by kernel_rfl) (fun _ _ _ h => h) (by rfl) ?_ (by assumption) ?_
  rotate_left
  · (intro w hSw; (try dsimp only at hSw); go_simp; try with_reducible rfl)
  try simp only [Act.put, List.setIfInBounds_toArray, List.set_cons_zero, List.set_cons_succ]
  refine takeW (i := 2) (d := some 141) (v := ?_) rfl rfl (by kernel_rfl) (by kernel_rfl) (by kernel_rfl) (fun _ _ _ h => h) (by rfl) ?_ (by assumption) ?_
  rotate_left
  · (intro w hSw; (try dsimp only at hSw); go_simp; try with_reducible rfl)
  try simp only [Act.put, List.setIfInBounds_toArray, List.set_cons_zero, List.set_cons_succ]
  refine takeW (i := 3) (d := some 142) (v := ?_) rfl rfl (by kernel_rfl) (by kernel_rfl) (by kernel_rfl) (fun _ _ _ h => h) (by rfl) ?_ (by assumption) ?_
  rotate_left
  · (intro w hSw; (try dsimp only at hSw); go_simp; try with_reducible rfl)
  try simp only [Act.put, List.setIfInBounds_toArray, List.set_cons_zero, List.set_cons_succ]
  refine takeW (i := 4) (d := some 143) (v := ?_) rfl rfl (by kernel_rfl) (by kernel_rfl) (by kernel_rfl) (fun _ _ _ h => h) (by rfl) ?_ (by assumption) ?_
  rotate_left
  · (intro w hSw; (try dsimp only at hSw); go_simp; try with_reducible rfl)
  try simp only [Act.put, List.setIfInBounds_toArray, List.set_cons_zero, List.set_cons_succ]
  refine takeW (i := 5) (d := some 144) (v := ?_) rfl rfl (by kernel_rfl) (by kernel_rfl) (by kernel_rfl) (fun _ _ _ h => h) (by rfl) ?_ (by assumption) ?_
  rotate_left
  · (intro w hSw; (try dsimp only at hSw); go_simp; try with_reducible rfl)
  try simp only [Act.put, List.setIfInBounds_toArray, List.set_cons_zero, List.set_cons_succ]
  refine takeW (i := 6) (d := some 145) (v := ?_) rfl rfl (by kernel_rfl) (by kernel_rfl) (by kernel_rfl) (fun _ _ _ h => h) (by rfl) ?_ (by assumption) ?_
  rotate_left
  · (intro w hSw; (try dsimp only at hSw); go_simp; try with_reducible rfl)
  try simp only [Act.put, List.setIfInBounds_toArray, List.set_cons_zero, List.set_cons_succ]
  refine takeW (i := 7) (d := some 146) (v := ?_) rfl rfl (by kernel_rfl) (by kernel_rfl) (by kernel_rfl) (fun _ _ _ h => h) (by rfl) ?_ (by assumption) ?_
  rotate_left
  · (intro w hSw; (try dsimp only at hSw); go_simp; try with_reducible rfl)
  try simp only [Act.put, List.setIfInBounds_toArray, List.set_cons_zero, List.set_cons_succ]
  refine takeW (i := 8) (d := some 147) (v := ?_) rfl rfl (by kernel_rfl) (by kernel_rfl) (by kernel_rfl) (fun _ _ _ h => h) (by rfl) ?_ (by assumption) ?_
  rotate_left
  · (intro w hSw; (try dsimp only at hSw); go_simp; try with_reducible rfl)
  try simp only [Act.put, List.setIfInBounds_toArray, List.set_cons_zero, List.set_cons_succ]
  refine takeW (i := 9) (d := some 148) (v := ?_) rfl rfl (by kernel_rfl) (by kernel_rfl) (by kernel_rfl) (fun _ _ _ h => h) (by rfl) ?_ (by assumption) ?_
  rotate_left
  · (intro w hSw; (try dsimp only at hSw); go_simp; try with_reducible rfl)
  try simp only [Act.put, List.setIfInBounds_toArray, List.set_cons_zero, List.set_cons_succ]
  refine takeW (i := 10) (d := some 149) (v := ?_) rfl rfl (by kernel_rfl) (by kernel_rfl) (by kernel_rfl) (fun _ _ _ h => h) (by rfl) ?_ (by assumption) ?_
  rotate_left
  · (intro w hSw; (try dsimp only at hSw); go_simp; try with_reducible rfl)
  try simp only [Act.put, List.setIfInBounds_toArray, List.set_cons_zero, List.set_cons_succ]
  refine takeW (i := 11) (d := some 150) (v := ?_) rfl rfl (by kernel_rfl) (by kernel_rfl) (by kernel_rfl) (fun _ _ _ h => h) (by rfl) ?_ (by assumption) ?_
  rotate_left
  · (intro w hSw; (try dsimp only at hSw); go_simp; try with_reducible rfl)
  try simp only [Act.put, List.setIfInBounds_toArray, List.set_cons_zero, List.set_cons_succ]
  refine takeW (i := 12) (d := some 22) (v := ?_) rfl rfl (by kernel_rfl) (by kernel_rfl) (by kernel_rfl) (fun _ _ _ h => h) (by rfl) ?_ (by assumption) ?_
  rotate_left
  · (intro w hSw; (try dsimp only at hSw); go_simp; try with_reducible rfl)
  try simp only [Act.put, List.setIfInBounds_toArray, List.set_cons_zero, List.set_cons_succ]
  refine wpAnyH_done (by kernel_rfl) ?_ _
  clear t0 t1 t2 t3 t4 t5 t6
  obtain ⟨t0, t1, t2, t3, t4, t5, t6, _⟩ := S.out.out
  go_wp2_with fail
  have S := Lib.hid (S.out.drew)
  have bd : Below w4.drew.heap.size w4.drew w4.drew.drew := (Below.refl _ _).drew
  have R1 := Lib.hid (R1.out.later bd)
  have R2 := Lib.hid (R2.out.later bd)
  have R3 := Lib.hid (R3.out.later bd)
  have R4 := Lib.hid (R4.out.later bd)
  have HC : Hid (bb < w4.drew.drew.heap.size ∧ w4.drew.drew.cell? ⟨bb, oo, none⟩ = some (.int .i64 p)) := Lib.hid HC.out
  clear bd
  refine wp_region_held_drew (S := fun W => N3 w (.slice A k c) (.slice A' k' c') (.slice B l d) (.slice B' l' d') (.int .i64 lo) (.int .i64 hi) W ∧ W.cell? ⟨bb, oo, none⟩ = some (.int .i64 p)) (by kernel_rfl) ?_ (fun hHeld => ?_)
  · exact ⟨N3d.out S.out, HC.out.2⟩
  refine wpAnyH_ready (rs := [0]) (by kernel_rfl) (by simp) ?_
  refine AllReadyH.cons rfl (fun K hK => ?_) AllReadyH.nil
  refine ite_intro (by rfl) ?_
  go_simp
  refine (HS.out _).mono ?_
  rintro e w4 ⟨rfl, b1⟩
  have S := Lib.hid (S.out.below b1)
  have R1 := Lib.hid (R1.out.later b1)
  have R2 := Lib.hid (R2.out.later b1)
  have R3 := Lib.hid (R3.out.later b1)
  have R4 := Lib.hid (R4.out.later b1)
  have HC := Lib.hid (And.intro (Nat.lt_of_lt_of_le HC.out.1 b1.size) ((b1.cell (p := ⟨bb, oo, none⟩) HC.out.1).trans HC.out.2))
  clear b1
  refine hK.out _ _ ?_ (fun hHeld => ?_)
  · exact ⟨N3d.out S.out, HC.out.2⟩
  clear hK K
  try simp only [Act.put, List.setIfInBounds_toArray, List.set_cons_zero, List.set_cons_succ]
  refine takeW (i := 1) (d := some 152) (v := ?_) rfl rfl (by kernel_rfl) (by kernel_rfl) (by kernel_rfl) (fun _ _ _ h => h) (by rfl) ?_ (by assumption) ?_
  rotate_left
  · (intro w hSw; (try dsimp only at hSw); go_simp; try with_reducible rfl)
  try simp only [Act.put, List.setIfInBounds_toArray, List.set_cons_zero, List.set_cons_succ]
  refine takeW (i := 2) (d := some 153) (v := ?_) rfl rfl (by kernel_rfl) (by kernel_rfl) (by kernel_rfl) (fun _ _ _ h => h) (by rfl) ?_ (by assumption) ?_
  rotate_left
  · (intro w hSw; (try dsimp only at hSw); go_simp; try with_reducible rfl)
  try simp only [Act.put, List.setIfInBounds_toArray, List.set_cons_zero, List.set_cons_succ]
  refine takeW (i := 3) (d := some 154) (v := ?_) rfl rfl (by kernel_rfl) (by kernel_rfl) (by kernel_rfl) (fun _ _ _ h => h) (by rfl) ?_ (by assumption) ?_
  rotate_left
  · (intro w hSw; (try dsimp only at hSw); go_simp; try with_reducible rfl)
  try simp only [Act.put, List.setIfInBounds_toArray, List.set_cons_zero, List.set_cons_succ]
  refine takeW (i := 5) (d := some 156) (v := ?_) rfl rfl (by kernel_rfl) (by kernel_rfl) (by kernel_rfl) (fun _ _ _ h => h) (by rfl) ?_ (by assumption) ?_
  rotate_left
  · (intro w hSw; (try dsimp only at hSw); go_simp; try with_reducible rfl)
  try simp only [Act.put, List.setIfInBounds_toArray, List.set_cons_zero, List.set_cons_succ]
  refine takeW (i := 6) (d := some 157) (v := ?_) rfl rfl (by kernel_rfl) (by kernel_rfl) (by kernel_rfl) (fun _ _ _ h => h) (by rfl) ?_ (by assumption) ?_
  rotate_left
  · (intro w hSw; (try dsimp only at hSw); go_simp; try with_reducible rfl)
  try simp only [Act.put, List.setIfInBounds_toArray, List.set_cons_zero, List.set_cons_succ]
  refine wpAnyH_ready (rs := [4]) (by kernel_rfl) (by simp) ?_
  refine AllReadyH.cons rfl (fun K hK => ?_) AllReadyH.nil
  refine ite_intro (by rfl) ?_
  go_simp
  refine (IN1.out _ _ R1.out).mono ?_
  rintro e w4 ⟨rfl, b1⟩
  have S := Lib.hid (S.out.below b1)
  have R1 := Lib.hid (R1.out.later b1)
  have R2 := Lib.hid (R2.out.later b1)
  have R3 := Lib.hid (R3.out.later b1)
  have R4 := Lib.hid (R4.out.later b1)
  have HC := Lib.hid (And.intro (Nat.lt_of_lt_of_le HC.out.1 b1.size) ((b1.cell (p := ⟨bb, oo, none⟩) HC.out.1).trans HC.out.2))
  clear b1
  refine hK.out _ _ ?_ (fun hHeld => ?_)
  · exact ⟨N3d.out S.out, HC.out.2⟩
  clear hK K
  try simp only [Act.put, List.setIfInBounds_toArray, List.set_cons_zero, List.set_cons_succ]
  refine wpAnyH_ready (rs := [7]) (by kernel_rfl) (by simp) ?_
  refine AllReadyH.cons rfl (fun K hK => ?_) AllReadyH.nil
  refine ite_intro (by rfl) ?_
  go_simp
  refine (IN2.out _ _ R2.out).mono ?_
  rintro e w4 ⟨rfl, b1⟩
  have S := Lib.hid (S.out.below b1)
  have R1 := Lib.hid (R1.out.later b1)
  have R2 := Lib.hid (R2.out.later b1)
  have R3 := Lib.hid (R3.out.later b1)
  have R4 := Lib.hid (R4.out.later b1)
  have HC := Lib.hid (And.intro (Nat.lt_of_lt_of_le HC.out.1 b1.size) ((b1.cell (p := ⟨bb, oo, none⟩) HC.out.1).trans HC.out.2))
  clear b1
  refine hK.out _ _ ?_ (fun hHeld => ?_)
  · exact ⟨N3d.out S.out, HC.out.2⟩
  clear hK K
  try simp only [Act.put, List.setIfInBounds_toArray, List.set_cons_zero, List.set_cons_succ]
  refine takeW (i := 8) (d := some 159) (v := ?_) rfl rfl (by kernel_rfl) (by kernel_rfl) (by kernel_rfl) (fun _ _ _ h => h) (by rfl) ?_ (by assumption) ?_
  rotate_left
  · (intro w hSw; (try dsimp only at hSw); go_simp; try with_reducible rfl)
  try simp only [Act.put, List.setIfInBounds_toArray, List.set_cons_zero, List.set_cons_succ]
  refine takeW (i := 9) (d := some 160) (v := ?_) rfl rfl (by kernel_rfl) (by kernel_rfl) (by kernel_rfl) (fun _ _ _ h => h) (by rfl) ?_ (by assumption) ?_
  rotate_left
  · (intro w hSw; (try dsimp only at hSw); go_simp; try with_reducible rfl)
  try simp only [Act.put, List.setIfInBounds_toArray, List.set_cons_zero, List.set_cons_succ]
  refine takeW (i := 10) (d := some 161) (v := ?_) rfl rfl (by kernel_rfl) (by kernel_rfl) (by kernel_rfl) (fun _ _ _ h => h) (by rfl) ?_ (by assumption) ?_
  rotate_left
  · (intro w hSw; (try dsimp only at hSw); go_simp; try with_reducible rfl)
  try simp only [Act.put, List.setIfInBounds_toArray, List.set_cons_zero, List.set_cons_succ]
  refine takeW (i := 11) (d := some 162) (v := ?_) rfl rfl (by kernel_rfl) (by kernel_rfl) (by kernel_rfl) (fun _ _ _ h => h) (by rfl) ?_ (by assumption) ?_
  rotate_left
  · (intro w hSw; (try dsimp only at hSw); go_simp; try with_reducible rfl)
  try simp only [Act.put, List.setIfInBounds_toArray, List.set_cons_zero, List.set_cons_succ]
  refine takeW (i := 12) (d := some 163) (v := ?_) rfl rfl (by kernel_rfl) (by kernel_rfl) (by kernel_rfl) (fun _ _ _ h => h) (by rfl) ?_ (by assumption) ?_
  rotate_left
  · (intro w hSw; (try dsimp only at hSw); go_simp; try with_reducible rfl)
  try simp only [Act.put, List.setIfInBounds_toArray, List.set_cons_zero, List.set_cons_succ]
  refine takeW (i := 14) (d := some 165) (v := ?_) rfl rfl (by kernel_rfl) (by kernel_rfl) (by kernel_rfl) (fun _ _ _ h => h) (by rfl) ?_ (by assumption) ?_
  rotate_left
  · (intro w hSw; (try dsimp only at hSw); go_simp; try with_reducible rfl)
  try simp only [Act.put, List.setIfInBounds_toArray, List.set_cons_zero, List.set_cons_succ]
  refine takeW (i := 15) (d := some 166) (v := ?_) rfl rfl (by kernel_rfl) (by kernel_rfl) (by kernel_rfl) (fun _ _ _ h => h) (by rfl) ?_ (by assumption) ?_
  rotate_left
  · (intro w hSw; (try dsimp only at hSw); go_simp; try with_reducible rfl)
  try simp only [Act.put, List.setIfInBounds_toArray, List.set_cons_zero, List.set_cons_succ]
  refine wpAnyH_ready (rs := [13]) (by kernel_rfl) (by simp) ?_
  refine AllReadyH.cons rfl (fun K hK => ?_) AllReadyH.nil
  refine ite_intro (by rfl) ?_
  go_simp
  refine (IN1.out _ _ R1.out).mono ?_
  rintro e w4 ⟨rfl, b1⟩
  have S := Lib.hid (S.out.below b1)
  have R1 := Lib.hid (R1.out.later b1)
  have R2 := Lib.hid (R2.out.later b1)
  have R3 := Lib.hid (R3.out.later b1)
  have R4 := Lib.hid (R4.out.later b1)
  have HC := Lib.hid (And.intro (Nat.lt_of_lt_of_le HC.out.1 b1.size) ((b1.cell (p := ⟨bb, oo, none⟩) HC.out.1).trans HC.out.2))
  clear b1
  refine hK.out _ _ ?_ (fun hHeld => ?_)
  · exact ⟨N3d.out S.out, HC.out.2⟩
  clear hK K
  try simp only [Act.put, List.setIfInBounds_toArray, List.set_cons_zero, List.set_cons_succ]
  refine wpAnyH_ready (rs := [16]) (by kernel_rfl) (by simp) ?_
  refine AllReadyH.cons rfl (fun K hK => ?_) AllReadyH.nil
  refine ite_intro (by rfl) ?_
  go_simp
  refine (HA.out _ S.out).mono ?_
  rintro e w4 ⟨rfl, b1⟩
  have S := Lib.hid (S.out.below b1)
  have R1 := Lib.hid (R1.out.later b1)
  have R2 := Lib.hid (R2.out.later b1)
  have R3 := Lib.hid (R3.out.later b1)
  have R4 := Lib.hid (R4.out.later b1)
  have HC := Lib.hid (And.intro (Nat.lt_of_lt_of_le HC.out.1 b1.size) ((b1.cell (p := ⟨bb, oo, none⟩) HC.out.1).trans HC.out.2))
  clear b1
  refine hK.out _ _ ?_ (fun hHeld => ?_)
  · exact ⟨N3d.out S.out, HC.out.2⟩
  clear hK K
  try simp only [Act.put, List.setIfInBounds_toArray, List.set_cons_zero, List.set_cons_succ]
  refine takeW (i := 17) (d := some 168) (v := ?_) rfl rfl (by kernel_rfl) (by kernel_rfl) (by kernel_rfl) (fun _ _ _ h => h) (by rfl) ?_ (by assumption) ?_
  rotate_left
  · (intro w hSw; (try dsimp only at hSw); go_simp; try with_reducible rfl)
  try simp only [Act.put, List.setIfInBounds_toArray, List.set_cons_zero, List.set_cons_succ]
  refine takeW (i := 18) (d := some 169) (v := ?_) rfl rfl (by kernel_rfl) (by kernel_rfl) (by kernel_rfl) (fun _ _ _ h => h) (by rfl) ?_ (by assumption) ?_
  rotate_left
  · (intro w hSw; (try dsimp only at hSw); go_simp; try with_reducible rfl)
  try simp only [Act.put, List.setIfInBounds_toArray, List.set_cons_zero, List.set_cons_succ]
  refine takeW (i := 19) (d := some 170) (v := ?_) rfl rfl (by kernel_rfl) (by kernel_rfl) (by kernel_rfl) (fun _ _ _ h => h) (by rfl) ?_ (by assumption) ?_
  rotate_left
  · (intro w hSw; (try dsimp only at hSw); go_simp; try with_reducible rfl)
  try simp only [Act.put, List.setIfInBounds_toArray, List.set_cons_zero, List.set_cons_succ]
  refine takeW (i := 20) (d := some 171) (v := ?_) rfl rfl (by kernel_rfl) (by kernel_rfl) (by kernel_rfl) (fun _ _ _ h => h) (by rfl) ?_ (by assumption) ?_
  rotate_left
  · (intro w hSw; (try dsimp only at hSw); go_simp; try with_reducible rfl)
  try simp only [Act.put, List.setIfInBounds_toArray, List.set_cons_zero, List.set_cons_succ]
  refine takeW (i := 21) (d := some 172) (v := ?_) rfl rfl (by kernel_rfl) (by kernel_rfl) (by kernel_rfl) (fun _ _ _ h => h) (by rfl) ?_ (by assumption) ?_
  rotate_left
  · (intro w hSw; (try dsimp only at hSw); go_simp; try with_reducible rfl)
  try simp only [Act.put, List.setIfInBounds_toArray, List.set_cons_zero, List.set_cons_succ]
  refine takeW (i := 23) (d := some 174) (v := ?_) rfl rfl (by kernel_rfl) (by kernel_rfl) (by kernel_rfl) (fun _ _ _ h => h) (by rfl) ?_ (by assumption) ?_
  rotate_left
  · (intro w hSw; (try dsimp only at hSw); go_simp; try with_reducible rfl)
  try simp only [Act.put, List.setIfInBounds_toArray, List.set_cons_zero, List.set_cons_succ]
  refine takeW (i := 24) (d := some 175) (v := ?_) rfl rfl (by kernel_rfl) (by kernel_rfl) (by kernel_rfl) (fun _ _ _ h => h) (by rfl) ?_ (by assumption) ?_
  rotate_left
  · (intro w hSw; (try dsimp only at hSw); go_simp; try with_reducible rfl)
  try simp only [Act.put, List.setIfInBounds_toArray, List.set_cons_zero, List.set_cons_succ]
  refine wpAnyH_ready (rs := [22]) (by kernel_rfl) (by simp) ?_
  refine AllReadyH.cons rfl (fun K hK => ?_) AllReadyH.nil
  refine ite_intro (by rfl) ?_
  go_simp
  refine (IN3.out _ _ R3.out).mono ?_
  rintro e w4 ⟨rfl, b1⟩
  have S := Lib.hid (S.out.below b1)
  have R1 := Lib.hid (R1.out.later b1)
  have R2 := Lib.hid (R2.out.later b1)
  have R3 := Lib.hid (R3.out.later b1)
  have R4 := Lib.hid (R4.out.later b1)
  have HC := Lib.hid (And.intro (Nat.lt_of_lt_of_le HC.out.1 b1.size) ((b1.cell (p := ⟨bb, oo, none⟩) HC.out.1).trans HC.out.2))
  clear b1
  refine hK.out _ _ ?_ (fun hHeld => ?_)
  · exact ⟨N3d.out S.out, HC.out.2⟩
  clear hK K
  try simp only [Act.put, List.setIfInBounds_toArray, List.set_cons_zero, List.set_cons_succ]
  refine wpAnyH_ready (rs := [25]) (by kernel_rfl) (by simp) ?_
  refine AllReadyH.cons rfl (fun K hK => ?_) AllReadyH.nil
  refine ite_intro (by rfl) ?_
  go_simp
  refine (IN1.out _ _ R1.out).mono ?_
  rintro e w4 ⟨rfl, b1⟩
  have S := Lib.hid (S.out.below b1)
  have R1 := Lib.hid (R1.out.later b1)
  have R2 := Lib.hid (R2.out.later b1)
  have R3 := Lib.hid (R3.out.later b1)
  have R4 := Lib.hid (R4.out.later b1)
  have HC := Lib.hid (And.intro (Nat.lt_of_lt_of_le HC.out.1 b1.size) ((b1.cell (p := ⟨bb, oo, none⟩) HC.out.1).trans HC.out.2))
  clear b1
  refine hK.out _ _ ?_ (fun hHeld => ?_)
  · exact ⟨N3d.out S.out, HC.out.2⟩
  clear hK K
  try simp only [Act.put, List.setIfInBounds_toArray, List.set_cons_zero, List.set_cons_succ]
  refine takeW (i := 26) (d := some 177) (v := ?_) rfl rfl (by kernel_rfl) (by kernel_rfl) (by kernel_rfl) (fun _ _ _ h => h) (by rfl) ?_ (by assumption) ?_
  rotate_left
  · (intro w hSw; (try dsimp only at hSw); go_simp; try with_reducible rfl)
  try simp only [Act.put, List.setIfInBounds_toArray, List.set_cons_zero, List.set_cons_succ]
  refine skipW (i := 27) (d := some 178) rfl rfl (by kernel_rfl) (by kernel_rfl) (by kernel_rfl) (fun _ _ _ h => h) (by rfl) (by assumption) ?_
  try simp only [Act.put, List.setIfInBounds_toArray, List.set_cons_zero, List.set_cons_succ]
  refine skipW (i := 28) (d := some 179) rfl rfl (by kernel_rfl) (by kernel_rfl) (by kernel_rfl) (fun _ _ _ h => h) (by rfl) (by assumption) ?_
  try simp only [Act.put, List.setIfInBounds_toArray, List.set_cons_zero, List.set_cons_succ]
  refine skipW (i := 29) (d := some 180) rfl rfl (by kernel_rfl) (by kernel_rfl) (by kernel_rfl) (fun _ _ _ h => h) (by rfl) (by assumption) ?_
  try simp only [Act.put, List.setIfInBounds_toArray, List.set_cons_zero, List.set_cons_succ]
  refine takeW (i := 30) (d := some 181) (v := ?_) rfl rfl (by kernel_rfl) (by kernel_rfl) (by kernel_rfl) (fun _ _ _ h => h) (by rfl) ?_ (by assumption) ?_
  rotate_left
  · (intro w hSw; (try dsimp only at hSw); go_simp; try with_reducible rfl)
  try simp only [Act.put, List.setIfInBounds_toArray, List.set_cons_zero, List.set_cons_succ]
  refine takeW (i := 31) (d := some 182) (v := ?_) rfl rfl (by kernel_rfl) (by kernel_rfl) (by kernel_rfl) (fun _ _ _ h => h) (by rfl) ?_ (by assumption) ?_
  rotate_left
  · (intro w hSw; (try dsimp only at hSw); go_simp; try with_reducible rfl)
  try simp only [Act.put, List.setIfInBounds_toArray, List.set_cons_zero, List.set_cons_succ]
  refine takeW (i := 32) (d := some 183) (v := ?_) rfl rfl (by kernel_rfl) (by kernel_rfl) (by kernel_rfl) (fun _ _ _ h => h) (by rfl) ?_ (by assumption) ?_
  rotate_left
  · (intro w hSw; (try dsimp only at hSw); go_simp; try with_reducible rfl)
  try simp only [Act.put, List.setIfInBounds_toArray, List.set_cons_zero, List.set_cons_succ]
  refine takeW (i := 33) (d := some 184) (v := ?_) rfl rfl (by kernel_rfl) (by kernel_rfl) (by kernel_rfl) (fun _ _ _ h => h) (by rfl) ?_ (by assumption) ?_
  rotate_left
  · (intro w hSw; (try dsimp only at hSw); go_simp; try with_reducible rfl)
  try simp only [Act.put, List.setIfInBounds_toArray, List.set_cons_zero, List.set_cons_succ]
  refine takeW (i := 34) (d := some 185) (v := ?_) rfl rfl (by kernel_rfl) (by kernel_rfl) (by kernel_rfl) (fun _ _ _ h => h) (by rfl) ?_ (by assumption) ?_
  rotate_left
  · (intro w hSw; (try dsimp only at hSw); go_simp; try with_reducible rfl)
  try simp only [Act.put, List.setIfInBounds_toArray, List.set_cons_zero, List.set_cons_succ]
  refine wpAnyH_ready (rs := [35]) (by kernel_rfl) (by simp) ?_
  refine AllReadyH.cons rfl (fun K hK => ?_) AllReadyH.nil
  refine ite_intro (by rfl) ?_
  go_simp
  refine (AP1.out _ _ R1.out).mono ?_
  rintro e w4 ⟨rfl, b1⟩
  have S := Lib.hid (S.out.below b1)
  have R1 := Lib.hid (R1.out.later b1)
  have R2 := Lib.hid (R2.out.later b1)
  have R3 := Lib.hid (R3.out.later b1)
  have R4 := Lib.hid (R4.out.later b1)
  have HC := Lib.hid (And.intro (Nat.lt_of_lt_of_le HC.out.1 b1.size) ((b1.cell (p := ⟨bb, oo, none⟩) HC.out.1).trans HC.out.2))
  clear b1
  refine hK.out _ _ ?_ (fun hHeld => ?_)
  · exact ⟨N3d.out S.out, HC.out.2⟩
  clear hK K
  try simp only [Act.put, List.setIfInBounds_toArray, List.set_cons_zero, List.set_cons_succ]
  refine takeW (i := 36) (d := some 187) (v := ?_) rfl rfl (by kernel_rfl) (by kernel_rfl) (by kernel_rfl) (fun _ _ _ h => h) (by rfl) ?_ (by assumption) ?_
  rotate_left
  · (intro w hSw; (try dsimp only at hSw); go_simp; try with_reducible rfl)
  try simp only [Act.put, List.setIfInBounds_toArray, List.set_cons_zero, List.set_cons_succ]
  refine takeW (i := 37) (d := some 188) (v := ?_) rfl rfl (by kernel_rfl) (by kernel_rfl) (by kernel_rfl) (fun _ _ _ h => h) (by rfl) ?_ (by assumption) ?_
  rotate_left
  · (intro w hSw; (try dsimp only at hSw); go_simp; try with_reducible rfl)
  try simp only [Act.put, List.setIfInBounds_toArray, List.set_cons_zero, List.set_cons_succ]
  refine takeW (i := 38) (d := some 189) (v := ?_) rfl rfl (by kernel_rfl) (by kernel_rfl) (by kernel_rfl) (fun _ _ _ h => h) (by rfl) ?_ (by assumption) ?_
  rotate_left
  · (intro w hSw; (try dsimp only at hSw); go_simp; try with_reducible rfl)
  try simp only [Act.put, List.setIfInBounds_toArray, List.set_cons_zero, List.set_cons_succ]
  refine wpAnyH_ready (rs := [39]) (by kernel_rfl) (by simp) ?_
  refine AllReadyH.cons rfl (fun K hK => ?_) AllReadyH.nil
  refine ite_intro (by rfl) ?_
  go_simp
  refine (AP2.out _ _ R2.out).mono ?_
  rintro e w4 ⟨rfl, b1⟩
  have S := Lib.hid (S.out.below b1)
  have R1 := Lib.hid (R1.out.later b1)
  have R2 := Lib.hid (R2.out.later b1)
  have R3 := Lib.hid (R3.out.later b1)
  have R4 := Lib.hid (R4.out.later b1)
  have HC := Lib.hid (And.intro (Nat.lt_of_lt_of_le HC.out.1 b1.size) ((b1.cell (p := ⟨bb, oo, none⟩) HC.out.1).trans HC.out.2))
  clear b1
  refine hK.out _ _ ?_ (fun hHeld => ?_)
  · exact ⟨N3d.out S.out, HC.out.2⟩
  clear hK K
  try simp only [Act.put, List.setIfInBounds_toArray, List.set_cons_zero, List.set_cons_succ]
  refine takeW (i := 40) (d := some 191) (v := ?_) rfl rfl (by kernel_rfl) (by kernel_rfl) (by kernel_rfl) (fun _ _ _ h => h) (by rfl) ?_ (by assumption) ?_
  rotate_left
  · (intro w hSw; (try dsimp only at hSw); go_simp; try with_reducible rfl)
  try simp only [Act.put, List.setIfInBounds_toArray, List.set_cons_zero, List.set_cons_succ]
  refine takeW (i := 41) (d := some 192) (v := ?_) rfl rfl (by kernel_rfl) (by kernel_rfl) (by kernel_rfl) (fun _ _ _ h => h) (by rfl) ?_ (by assumption) ?_
  rotate_left
  · (intro w hSw; (try dsimp only at hSw); go_simp; try with_reducible rfl)
  try simp only [Act.put, List.setIfInBounds_toArray, List.set_cons_zero, List.set_cons_succ]
  refine takeW (i := 42) (d := some 193) (v := ?_) rfl rfl (by kernel_rfl) (by kernel_rfl) (by kernel_rfl) (fun _ _ _ h => h) (by rfl) ?_ (by assumption) ?_
  rotate_left
  · (intro w hSw; (try dsimp only at hSw); go_simp; try with_reducible rfl)
  try simp only [Act.put, List.setIfInBounds_toArray, List.set_cons_zero, List.set_cons_succ]
  refine wpAnyH_ready (rs := [43]) (by kernel_rfl) (by simp) ?_
  refine AllReadyH.cons rfl (fun K hK => ?_) AllReadyH.nil
  refine ite_intro (by rfl) ?_
  go_simp
  refine (AP3.out _ _ R3.out).mono ?_
  rintro e w4 ⟨rfl, b1⟩
  have S := Lib.hid (S.out.below b1)
  have R1 := Lib.hid (R1.out.later b1)
  have R2 := Lib.hid (R2.out.later b1)
  have R3 := Lib.hid (R3.out.later b1)
  have R4 := Lib.hid (R4.out.later b1)
  have HC := Lib.hid (And.intro (Nat.lt_of_lt_of_le HC.out.1 b1.size) ((b1.cell (p := ⟨bb, oo, none⟩) HC.out.1).trans HC.out.2))
  clear b1
  refine hK.out _ _ ?_ (fun hHeld => ?_)
  · exact ⟨N3d.out S.out, HC.out.2⟩
  clear hK K
  try simp only [Act.put, List.setIfInBounds_toArray, List.set_cons_zero, List.set_cons_succ]
  refine takeW (i := 44) (d := some 195) (v := ?_) rfl rfl (by kernel_rfl) (by kernel_rfl) (by kernel_rfl) (fun _ _ _ h => h) (by rfl) ?_ (by assumption) ?_
  rotate_left
  · (intro w hSw; (try dsimp only at hSw); go_simp; try with_reducible rfl)
  try simp only [Act.put, List.setIfInBounds_toArray, List.set_cons_zero, List.set_cons_succ]
  refine takeW (i := 45) (d := some 8) (v := ?_) rfl rfl (by kernel_rfl) (by kernel_rfl) (by kernel_rfl) (fun _ _ _ h => h) (by rfl) ?_ (by assumption) ?_
  rotate_left
  · (intro w hSw; (try dsimp only at hSw); go_simp; try with_reducible rfl)
  try simp only [Act.put, List.setIfInBounds_toArray, List.set_cons_zero, List.set_cons_succ]
  refine wpAnyH_done (by kernel_rfl) ?_ _
  go_wp2_with fail
  go_ret
  exact ⟨by simp, S.out.bel⟩

end Go.Proofs.YtlhgpeelenelbaaDoor

/- The law TurnWhole, its calls met by their contracts. -/
namespace Go.Proofs.YtlhgpeelenelbaaDoor
open Go.RowKit

set_option maxHeartbeats 4000000 in
set_option maxRecDepth 100000 in
theorem wholeLaw_no (hsan : ∀ W, Calls Tryd.prog 16 #[] W fun e w' => e = .returned (.bool true) ∧ Below W.heap.size W w') (A A' B B' : Option Addr) (k c k' c' l d l' d' : Nat) (lo hi sm : Int) (w : World) (hf : fewB k k' = false ∨ (fewB k k' = true ∧ fewB l l' = false) ∨ (fewB k k' = true ∧ fewB l l' = true ∧ briefB lo hi = false)) :
    Calls Tryd.prog 12 #[.agg #[.slice A k c, .slice A' k' c'], .agg #[.slice B l d, .slice B' l' d'], sv2 lo hi, .int .u16 sm] w fun e w' => e = .returned (.bool true) ∧ Below w.heap.size w w' := by
  have HS := Lib.hid hsan
  have S0 := Lib.hid (N3d.new (w := w) (v0 := .slice A k c) (v1 := .slice A' k' c') (u0 := .slice B l d) (u1 := .slice B' l' d') (z0 := .int .i64 lo) (z1 := .int .i64 hi) 25 25 49)
  clear hsan
  rcases hf with f1 | ⟨f1, f2⟩ | ⟨f1, f2, f3⟩
  · have F1 := Lib.hid fun W => few_any A A' k c k' c' W
    rw [f1] at F1
    clear f1
    go_enter Tryd.func12, Tryd.ntmps12
    go_wp2_with fail
    refine (F1.out _).mono ?_
    rintro e w1 ⟨rfl, h1⟩
    have S := Lib.hid (S0.out.below h1)
    clear h1 S0
    go_wp2_with fail
    refine (HS.out _).mono ?_
    rintro e w2 ⟨rfl, h2⟩
    have S := Lib.hid (S.out.below h2)
    clear h2
    go_wp2_with fail
    go_ret
    exact ⟨rfl, S.out.bel⟩
  · have F1 := Lib.hid fun W => few_any A A' k c k' c' W
    rw [f1] at F1
    have F2 := Lib.hid fun W => few_any B B' l d l' d' W
    rw [f2] at F2
    clear f1 f2
    go_enter Tryd.func12, Tryd.ntmps12
    go_wp2_with fail
    refine (F1.out _).mono ?_
    rintro e w1 ⟨rfl, h1⟩
    have S := Lib.hid (S0.out.below h1)
    clear h1 S0
    obtain ⟨t0, t1, t2, t3, t4, t5, t6, _⟩ := S.out.out
    go_wp2_with fail
    refine (F2.out _).mono ?_
    rintro e w1 ⟨rfl, h1⟩
    have S := Lib.hid (S.out.below h1)
    clear h1 t0 t1 t2 t3 t4 t5 t6
    go_wp2_with fail
    refine (HS.out _).mono ?_
    rintro e w2 ⟨rfl, h2⟩
    have S := Lib.hid (S.out.below h2)
    clear h2
    go_wp2_with fail
    go_ret
    exact ⟨rfl, S.out.bel⟩
  · have F1 := Lib.hid fun W => few_any A A' k c k' c' W
    rw [f1] at F1
    have F2 := Lib.hid fun W => few_any B B' l d l' d' W
    rw [f2] at F2
    have F3 := Lib.hid fun W => brief_any lo hi W
    rw [f3] at F3
    clear f1 f2 f3
    go_enter Tryd.func12, Tryd.ntmps12
    go_wp2_with fail
    refine (F1.out _).mono ?_
    rintro e w1 ⟨rfl, h1⟩
    have S := Lib.hid (S0.out.below h1)
    clear h1 S0
    obtain ⟨t0, t1, t2, t3, t4, t5, t6, _⟩ := S.out.out
    go_wp2_with fail
    refine (F2.out _).mono ?_
    rintro e w1 ⟨rfl, h1⟩
    have S := Lib.hid (S.out.below h1)
    clear h1 t0 t1 t2 t3 t4 t5 t6
    obtain ⟨t0, t1, t2, t3, t4, t5, t6, _⟩ := S.out.out
    go_wp2_with fail
    refine (F3.out _).mono ?_
    rintro e w1 ⟨rfl, h1⟩
    have S := Lib.hid (S.out.below h1)
    clear h1 t0 t1 t2 t3 t4 t5 t6
    go_wp2_with fail
    refine (HS.out _).mono ?_
    rintro e w2 ⟨rfl, h2⟩
    have S := Lib.hid (S.out.below h2)
    clear h2
    go_wp2_with fail
    go_ret
    exact ⟨rfl, S.out.bel⟩

set_option maxHeartbeats 8000000 in
set_option maxRecDepth 100000 in
theorem wholeLaw_err1 (hsan : ∀ W, Calls Tryd.prog 16 #[] W fun e w' => e = .returned (.bool true) ∧ Below W.heap.size W w') (A A' B B' : Option Addr) (k c k' c' l d l' d' : Nat) (lo hi sm r p : Int) (bo : Bool) (w : World)
    (za zb zc : Int) (h0 : za ≠ 0) (f1 : fewB k k' = true) (f2 : fewB l l' = true) (f3 : briefB lo hi = true)
    (C1 : Hid (∀ W, N3d w (.slice A k c) (.slice A' k' c') (.slice B l d) (.slice B' l' d') (.int .i64 lo) (.int .i64 hi) W → Calls Tryd.prog 38 #[.agg #[.slice A k c, .slice A' k' c'], sv2 lo hi] W fun e w' => ∃ v, e = .returned (.tuple #[v, .int .i64 za]) ∧ Below W.heap.size W w')) (C2 : Hid (∀ W, N3d w (.slice A k c) (.slice A' k' c') (.slice B l d) (.slice B' l' d') (.int .i64 lo) (.int .i64 hi) W → Calls Tryd.prog 40 #[.agg #[.slice A k c, .slice A' k' c'], sv2 lo hi] W fun e w' => ∃ v, e = .returned (.tuple #[v, .int .i64 za]) ∧ Below W.heap.size W w')) (C3 : Hid (∀ W, N3d w (.slice A k c) (.slice A' k' c') (.slice B l d) (.slice B' l' d') (.int .i64 lo) (.int .i64 hi) W → Calls Tryd.prog 59 #[.agg #[.slice A k c, .slice A' k' c'], .agg #[.slice B l d, .slice B' l' d'], sv2 lo hi] W fun e w' => ∃ v, e = .returned (.tuple #[v, .int .i64 zb]) ∧ Below W.heap.size W w')) (C4 : Hid (∀ W, N3d w (.slice A k c) (.slice A' k' c') (.slice B l d) (.slice B' l' d') (.int .i64 lo) (.int .i64 hi) W → Calls Tryd.prog 38 #[.agg #[.slice B l d, .slice B' l' d'], sv2 lo hi] W fun e w' => ∃ v, e = .returned (.tuple #[v, .int .i64 zc]) ∧ Below W.heap.size W w'))
    (C5 : Hid (∀ W, N3d w (.slice A k c) (.slice A' k' c') (.slice B l d) (.slice B' l' d') (.int .i64 lo) (.int .i64 hi) W → Calls Tryd.prog 56 #[.agg #[.slice A k c, .slice A' k' c'], sv2 lo hi] W fun e w' => e = .returned (.tuple #[.int .i64 r, .int .i64 za]) ∧ Below W.heap.size W w')) (C6 : Hid (∀ W, N3d w (.slice A k c) (.slice A' k' c') (.slice B l d) (.slice B' l' d') (.int .i64 lo) (.int .i64 hi) W → Calls Tryd.prog 60 #[.agg #[.slice A k c, .slice A' k' c'], sv2 lo hi] W fun e w' => e = .returned (.tuple #[.int .i64 p, .bool bo, .int .i64 za]) ∧ Below W.heap.size W w')) :
    Calls Tryd.prog 12 #[.agg #[.slice A k c, .slice A' k' c'], .agg #[.slice B l d, .slice B' l' d'], sv2 lo hi, .int .u16 sm] w fun e w' => e = .returned (.bool true) ∧ Below w.heap.size w w' := by
  have HS := Lib.hid hsan
  have S0 := Lib.hid (N3d.new (w := w) (v0 := .slice A k c) (v1 := .slice A' k' c') (u0 := .slice B l d) (u1 := .slice B' l' d') (z0 := .int .i64 lo) (z1 := .int .i64 hi) 25 25 49)
  have F1 := Lib.hid fun W => few_any A A' k c k' c' W
  rw [f1] at F1
  have F2 := Lib.hid fun W => few_any B B' l d l' d' W
  rw [f2] at F2
  have F3 := Lib.hid fun W => brief_any lo hi W
  rw [f3] at F3
  have hb0 : (za != 0) = true := by rw [bne_iff_ne]; exact h0
  clear hsan f1 f2 f3 h0
  go_enter Tryd.func12, Tryd.ntmps12
  go_wp2_with fail
  refine (F1.out _).mono ?_
  rintro e w1 ⟨rfl, h1⟩
  have S := Lib.hid (S0.out.below h1)
  clear h1 S0 F1
  obtain ⟨t0, t1, t2, t3, t4, t5, t6, _⟩ := S.out.out
  go_wp2_with fail
  refine (F2.out _).mono ?_
  rintro e w1 ⟨rfl, h1⟩
  have S := Lib.hid (S.out.below h1)
  clear h1 t0 t1 t2 t3 t4 t5 t6 F2
  obtain ⟨t0, t1, t2, t3, t4, t5, t6, _⟩ := S.out.out
  go_wp2_with fail
  refine (F3.out _).mono ?_
  rintro e w1 ⟨rfl, h1⟩
  have S := Lib.hid (S.out.below h1)
  clear h1 t0 t1 t2 t3 t4 t5 t6 F3
  obtain ⟨t0, t1, t2, t3, t4, t5, t6, _⟩ := S.out.out
  go_wp2_with fail
  refine (C1.out _ S.out).mono ?_
  rintro e w3 ⟨v1, rfl, b1⟩
  have S := Lib.hid (S.out.below b1)
  clear b1 t0 t1 t2 t3 t4 t5 t6 C1
  obtain ⟨t0, t1, t2, t3, t4, t5, t6, _⟩ := S.out.out
  go_wp2_with fail
  refine (C2.out _ S.out).mono ?_
  rintro e w3 ⟨v2, rfl, b1⟩
  have S := Lib.hid (S.out.below b1)
  clear b1 t0 t1 t2 t3 t4 t5 t6 C2
  obtain ⟨t0, t1, t2, t3, t4, t5, t6, _⟩ := S.out.out
  go_wp2_with fail
  refine (C3.out _ S.out).mono ?_
  rintro e w3 ⟨v3, rfl, b1⟩
  have S := Lib.hid (S.out.below b1)
  clear b1 t0 t1 t2 t3 t4 t5 t6 C3
  obtain ⟨t0, t1, t2, t3, t4, t5, t6, _⟩ := S.out.out
  go_wp2_with fail
  refine (C4.out _ S.out).mono ?_
  rintro e w3 ⟨v4, rfl, b1⟩
  have S := Lib.hid (S.out.below b1)
  clear b1 t0 t1 t2 t3 t4 t5 t6 C4
  obtain ⟨t0, t1, t2, t3, t4, t5, t6, _⟩ := S.out.out
  go_wp2_with fail
  refine (C5.out _ S.out).mono ?_
  rintro e w3 ⟨rfl, b1⟩
  have S := Lib.hid (S.out.below b1)
  clear b1 t0 t1 t2 t3 t4 t5 t6 C5
  obtain ⟨t0, t1, t2, t3, t4, t5, t6, _⟩ := S.out.out
  go_wp2_with fail
  refine (C6.out _ S.out).mono ?_
  rintro e w3 ⟨rfl, b1⟩
  have S := Lib.hid (S.out.below b1)
  clear b1 t0 t1 t2 t3 t4 t5 t6 C6
  obtain ⟨t0, t1, t2, t3, t4, t5, t6, _⟩ := S.out.out
  go_wp2_with fail
  refine (HS.out _).mono ?_
  rintro e w4 ⟨rfl, b1⟩
  have S := Lib.hid (S.out.below b1)
  clear b1
  go_wp2_with fail
  go_ret
  exact ⟨rfl, S.out.bel⟩

set_option maxHeartbeats 8000000 in
set_option maxRecDepth 100000 in
theorem wholeLaw_err2 (hsan : ∀ W, Calls Tryd.prog 16 #[] W fun e w' => e = .returned (.bool true) ∧ Below W.heap.size W w') (A A' B B' : Option Addr) (k c k' c' l d l' d' : Nat) (lo hi sm r p : Int) (bo : Bool) (w : World)
    (zb : Int) (h0 : zb ≠ 0) (f1 : fewB k k' = true) (f2 : fewB l l' = true) (f3 : briefB lo hi = true)
    (C1 : Hid (∀ W, N3d w (.slice A k c) (.slice A' k' c') (.slice B l d) (.slice B' l' d') (.int .i64 lo) (.int .i64 hi) W → Calls Tryd.prog 38 #[.agg #[.slice A k c, .slice A' k' c'], sv2 lo hi] W fun e w' => ∃ v, e = .returned (.tuple #[v, .int .i64 0]) ∧ Below W.heap.size W w')) (C2 : Hid (∀ W, N3d w (.slice A k c) (.slice A' k' c') (.slice B l d) (.slice B' l' d') (.int .i64 lo) (.int .i64 hi) W → Calls Tryd.prog 40 #[.agg #[.slice A k c, .slice A' k' c'], sv2 lo hi] W fun e w' => ∃ v, e = .returned (.tuple #[v, .int .i64 0]) ∧ Below W.heap.size W w')) (C3 : Hid (∀ W, N3d w (.slice A k c) (.slice A' k' c') (.slice B l d) (.slice B' l' d') (.int .i64 lo) (.int .i64 hi) W → Calls Tryd.prog 59 #[.agg #[.slice A k c, .slice A' k' c'], .agg #[.slice B l d, .slice B' l' d'], sv2 lo hi] W fun e w' => ∃ v, e = .returned (.tuple #[v, .int .i64 zb]) ∧ Below W.heap.size W w')) (C4 : Hid (∀ W, N3d w (.slice A k c) (.slice A' k' c') (.slice B l d) (.slice B' l' d') (.int .i64 lo) (.int .i64 hi) W → Calls Tryd.prog 38 #[.agg #[.slice B l d, .slice B' l' d'], sv2 lo hi] W fun e w' => ∃ v, e = .returned (.tuple #[v, .int .i64 zb]) ∧ Below W.heap.size W w'))
    (C5 : Hid (∀ W, N3d w (.slice A k c) (.slice A' k' c') (.slice B l d) (.slice B' l' d') (.int .i64 lo) (.int .i64 hi) W → Calls Tryd.prog 56 #[.agg #[.slice A k c, .slice A' k' c'], sv2 lo hi] W fun e w' => e = .returned (.tuple #[.int .i64 r, .int .i64 0]) ∧ Below W.heap.size W w')) (C6 : Hid (∀ W, N3d w (.slice A k c) (.slice A' k' c') (.slice B l d) (.slice B' l' d') (.int .i64 lo) (.int .i64 hi) W → Calls Tryd.prog 60 #[.agg #[.slice A k c, .slice A' k' c'], sv2 lo hi] W fun e w' => e = .returned (.tuple #[.int .i64 p, .bool bo, .int .i64 0]) ∧ Below W.heap.size W w')) :
    Calls Tryd.prog 12 #[.agg #[.slice A k c, .slice A' k' c'], .agg #[.slice B l d, .slice B' l' d'], sv2 lo hi, .int .u16 sm] w fun e w' => e = .returned (.bool true) ∧ Below w.heap.size w w' := by
  have HS := Lib.hid hsan
  have S0 := Lib.hid (N3d.new (w := w) (v0 := .slice A k c) (v1 := .slice A' k' c') (u0 := .slice B l d) (u1 := .slice B' l' d') (z0 := .int .i64 lo) (z1 := .int .i64 hi) 25 25 49)
  have F1 := Lib.hid fun W => few_any A A' k c k' c' W
  rw [f1] at F1
  have F2 := Lib.hid fun W => few_any B B' l d l' d' W
  rw [f2] at F2
  have F3 := Lib.hid fun W => brief_any lo hi W
  rw [f3] at F3
  have hb0 : (zb != 0) = true := by rw [bne_iff_ne]; exact h0
  clear hsan f1 f2 f3 h0
  go_enter Tryd.func12, Tryd.ntmps12
  go_wp2_with fail
  refine (F1.out _).mono ?_
  rintro e w1 ⟨rfl, h1⟩
  have S := Lib.hid (S0.out.below h1)
  clear h1 S0 F1
  obtain ⟨t0, t1, t2, t3, t4, t5, t6, _⟩ := S.out.out
  go_wp2_with fail
  refine (F2.out _).mono ?_
  rintro e w1 ⟨rfl, h1⟩
  have S := Lib.hid (S.out.below h1)
  clear h1 t0 t1 t2 t3 t4 t5 t6 F2
  obtain ⟨t0, t1, t2, t3, t4, t5, t6, _⟩ := S.out.out
  go_wp2_with fail
  refine (F3.out _).mono ?_
  rintro e w1 ⟨rfl, h1⟩
  have S := Lib.hid (S.out.below h1)
  clear h1 t0 t1 t2 t3 t4 t5 t6 F3
  obtain ⟨t0, t1, t2, t3, t4, t5, t6, _⟩ := S.out.out
  go_wp2_with fail
  refine (C1.out _ S.out).mono ?_
  rintro e w3 ⟨v1, rfl, b1⟩
  have S := Lib.hid (S.out.below b1)
  clear b1 t0 t1 t2 t3 t4 t5 t6 C1
  obtain ⟨t0, t1, t2, t3, t4, t5, t6, _⟩ := S.out.out
  go_wp2_with fail
  refine (C2.out _ S.out).mono ?_
  rintro e w3 ⟨v2, rfl, b1⟩
  have S := Lib.hid (S.out.below b1)
  clear b1 t0 t1 t2 t3 t4 t5 t6 C2
  obtain ⟨t0, t1, t2, t3, t4, t5, t6, _⟩ := S.out.out
  go_wp2_with fail
  refine (C3.out _ S.out).mono ?_
  rintro e w3 ⟨v3, rfl, b1⟩
  have S := Lib.hid (S.out.below b1)
  clear b1 t0 t1 t2 t3 t4 t5 t6 C3
  obtain ⟨t0, t1, t2, t3, t4, t5, t6, _⟩ := S.out.out
  go_wp2_with fail
  refine (C4.out _ S.out).mono ?_
  rintro e w3 ⟨v4, rfl, b1⟩
  have S := Lib.hid (S.out.below b1)
  clear b1 t0 t1 t2 t3 t4 t5 t6 C4
  obtain ⟨t0, t1, t2, t3, t4, t5, t6, _⟩ := S.out.out
  go_wp2_with fail
  refine (C5.out _ S.out).mono ?_
  rintro e w3 ⟨rfl, b1⟩
  have S := Lib.hid (S.out.below b1)
  clear b1 t0 t1 t2 t3 t4 t5 t6 C5
  obtain ⟨t0, t1, t2, t3, t4, t5, t6, _⟩ := S.out.out
  go_wp2_with fail
  refine (C6.out _ S.out).mono ?_
  rintro e w3 ⟨rfl, b1⟩
  have S := Lib.hid (S.out.below b1)
  clear b1 t0 t1 t2 t3 t4 t5 t6 C6
  obtain ⟨t0, t1, t2, t3, t4, t5, t6, _⟩ := S.out.out
  go_wp2_with fail
  refine (HS.out _).mono ?_
  rintro e w4 ⟨rfl, b1⟩
  have S := Lib.hid (S.out.below b1)
  clear b1
  go_wp2_with fail
  go_ret
  exact ⟨by simp, S.out.bel⟩

theorem turnWhole_calls (hsan : ∀ W, Calls Tryd.prog 16 #[] W fun e w' => e = .returned (.bool true) ∧ Below W.heap.size W w') (A : Option Addr) (k c : Nat) (A' : Option Addr) (k' c' : Nat) (B : Option Addr) (l d : Nat) (B' : Option Addr) (l' d' : Nat) (lo hi sm : Int) (w : World) (ho : k ≤ 1000000000000 → k' ≤ 1000000000000 → ∃ ts ss, RM w.heap.size (.agg #[.slice A k c, .slice A' k' c']) ts ss w)
    (ho' : l ≤ 1000000000000 → l' ≤ 1000000000000 → ∃ ts ss, RM w.heap.size (.agg #[.slice B l d, .slice B' l' d']) ts ss w) (s0 : 0 ≤ sm) (s1 : sm ≤ 65535) :
    Calls Tryd.prog 12 #[.agg #[.slice A k c, .slice A' k' c'], .agg #[.slice B l d, .slice B' l' d'], sv2 lo hi, .int .u16 sm] w fun e w' => e = .returned (.bool true) ∧ Below w.heap.size w w' := by
  cases f1 : fewB k k' with
  | false => exact wholeLaw_no hsan A A' B B' k c k' c' l d l' d' lo hi sm w (.inl f1)
  | true =>
    cases f2 : fewB l l' with
    | false => exact wholeLaw_no hsan A A' B B' k c k' c' l d l' d' lo hi sm w (.inr (.inl ⟨f1, f2⟩))
    | true =>
      cases f3 : briefB lo hi with
      | false => exact wholeLaw_no hsan A A' B B' k c k' c' l d l' d' lo hi sm w (.inr (.inr ⟨f1, f2, f3⟩))
      | true =>
        have hk : k ≤ 30 ∧ k' ≤ 50 := by
          simp only [fewB, Bool.and_eq_true, Bool.or_eq_true, decide_eq_true_eq] at f1
          omega
        have hl : l ≤ 30 ∧ l' ≤ 50 := by
          simp only [fewB, Bool.and_eq_true, Bool.or_eq_true, decide_eq_true_eq] at f2
          omega
        obtain ⟨ts, ss, h⟩ := ho (by omega) (by omega)
        obtain ⟨ts2, ss2, h'⟩ := ho' (by omega) (by omega)
        obtain ⟨ck, hc⟩ := CheckIs.exists_ ts ss
        obtain ⟨ck', hc'⟩ := CheckIs.exists_ ts2 ss2
        obtain ⟨q, hq⟩ := InIs.exists_ ck lo hi
        obtain ⟨q0, hq0⟩ := BothIs.exists_ ck ck'
        obtain ⟨q1, hq1⟩ := InIs.exists_ q0 lo hi
        obtain ⟨q4, hq4⟩ := InIs.exists_ ck' lo hi
        obtain ⟨r, hr⟩ := CountIs.exists_ ts ss lo hi q
        have up := fun W (S : N3d w (.slice A k c) (.slice A' k' c') (.slice B l d) (.slice B' l' d') (.int .i64 lo) (.int .i64 hi) W) => h.up S.siz S.bel
        have up' := fun W (S : N3d w (.slice A k c) (.slice A' k' c') (.slice B l d) (.slice B' l' d') (.int .i64 lo) (.int .i64 hi) W) => h'.up S.siz S.bel
        have err : ∀ {d : Int} {full : List S2} {W : World} {e : Ending} {w' : World}, d ≠ 0 → ListPost d full W e w' → ∃ v, e = .returned (.tuple #[v, .int .i64 d]) ∧ Below W.heap.size W w' := by
          rintro d full W e w' h0 ⟨v, l, c, rfl, _, hb, h | h | h⟩
          · obtain ⟨_, _, rfl⟩ := h; exact ⟨v, rfl, hb⟩
          · exact absurd h.1 h0
          · exact absurd h.1 h0
        have any : ∀ {d : Int} {full : List S2} {W : World} {e : Ending} {w' : World}, (d ≠ 0 ∨ full.length ≤ 2000) → ListPost d full W e w' → ∃ v, e = .returned (.tuple #[v, .int .i64 d]) ∧ Below W.heap.size W w' := by
          rintro d full W e w' h0 ⟨v, l, c, rfl, _, hb, h | h | h⟩
          · obtain ⟨_, _, rfl⟩ := h; exact ⟨v, rfl, hb⟩
          · obtain ⟨rfl, _, _, rfl⟩ := h; exact ⟨v, rfl, hb⟩
          · rcases h0 with h0 | h0
            · exact absurd h.1 h0
            · omega
        have fin : ∀ {full : List S2} {W : World} {e : Ending} {w' : World}, full.length ≤ 2000 → ListPost 0 full W e w' → ∃ v, e = .returned (.tuple #[v, .int .i64 0]) ∧ RS w'.heap.size v full w' ∧ Below W.heap.size W w' := by
          rintro full W e w' hl ⟨v, l, c, rfl, hv, hb, h⟩
          obtain ⟨rfl, rfl⟩ := h.full hl
          exact ⟨v, rfl, hv, hb⟩
        have short : ∀ (H : Int → Bool), SOk lo hi → (spn H lo (hi + 1 - lo).toNat).length ≤ 2000 := fun H hs => by
          have hb := f3
          unfold briefB at hb
          rw [sokB_true.2 hs] at hb
          simp at hb
          have := (spn_half H lo (hi + 1 - lo).toNat).1
          omega
        by_cases hq' : q = 0
        · subst hq'
          obtain ⟨rfl, hs⟩ := inIs_ok hq
          obtain ⟨b0, b1, b2⟩ := id hs
          by_cases hq1' : q1 = 0
          · subst hq1'
            obtain ⟨rfl, _⟩ := inIs_ok hq1
            obtain rfl : ck' = 0 := by rcases hq0 with ⟨a, _⟩ | ⟨_, a⟩; exact absurd rfl a; exact a.symm
            obtain ⟨k1, k2, k3⟩ := checkIs_ok hc
            obtain ⟨m1, m2, m3⟩ := checkIs_ok hc'
            obtain ⟨p, bo, hcov, hfirst⟩ := CovIs.exists_ (setB (lotsOf ts ss)) lo hi b1
            have hK : lo + ((hi + 1 - lo).toNat : Int) = hi + 1 := by omega
            have g0 : 0 ≤ sm % (hi - lo + 1) := Int.emod_nonneg _ (by omega)
            have g1 : sm % (hi - lo + 1) < hi - lo + 1 := Int.emod_lt_of_pos _ (by omega)
            obtain ⟨mm, hmm⟩ : ∃ mm, mm = lo + sm % (hi - lo + 1) := ⟨_, rfl⟩
            have n0 : lo ≤ mm := by omega
            have n1 : mm ≤ hi := by omega
            have F1 := Lib.hid fun W => few_any A A' k c k' c' W
            rw [f1] at F1
            have F2 := Lib.hid fun W => few_any B B' l d l' d' W
            rw [f2] at F2
            have F3 := Lib.hid fun W => brief_any lo hi W
            rw [f3] at F3
            have C1 := Lib.hid fun W (S : N3d w (.slice A k c) (.slice A' k' c') (.slice B l d) (.slice B' l' d') (.int .i64 lo) (.int .i64 hi) W) => (spans_any _ ts ss lo hi 0 0 W (up W S) hc hq).mono fun e w' h => fin (short _ hs) h
            have C2 := Lib.hid fun W (S : N3d w (.slice A k c) (.slice A' k' c') (.slice B l d) (.slice B' l' d') (.int .i64 lo) (.int .i64 hi) W) => (rest_any _ ts ss lo hi 0 0 W (up W S) hc hq).mono fun e w' h => fin (short _ hs) h
            have C3 := Lib.hid fun W (S : N3d w (.slice A k c) (.slice A' k' c') (.slice B l d) (.slice B' l' d') (.int .i64 lo) (.int .i64 hi) W) => (common_any _ _ ts ss ts2 ss2 lo hi 0 0 0 0 W (up W S) (up' W S) hc hc' hq0 hq1).mono fun e w' h => fin (short _ hs) h
            have hq4' : InIs 0 lo hi 0 := .inr (.inl ⟨rfl, hs, rfl⟩)
            have C4 := Lib.hid fun W (S : N3d w (.slice A k c) (.slice A' k' c') (.slice B l d) (.slice B' l' d') (.int .i64 lo) (.int .i64 hi) W) => (spans_any _ ts2 ss2 lo hi 0 0 W (up' W S) hc' hq4').mono fun e w' h => fin (short _ hs) h
            have C5 := Lib.hid fun W (S : N3d w (.slice A k c) (.slice A' k' c') (.slice B l d) (.slice B' l' d') (.int .i64 lo) (.int .i64 hi) W) => count_any _ ts ss lo hi 0 0 (tot (spn (setB (lotsOf ts ss)) lo (hi + 1 - lo).toNat)) W (up W S) hc hq (.inr ⟨rfl, tot_spn _ _ _⟩)
            have C6 : Hid (∀ W, N3d w (.slice A k c) (.slice A' k' c') (.slice B l d) (.slice B' l' d') (.int .i64 lo) (.int .i64 hi) W → Calls Tryd.prog 60 #[.agg #[.slice A k c, .slice A' k' c'], sv2 lo hi] W fun e w' => e = .returned (.tuple #[.int .i64 p, .bool bo, .int .i64 0]) ∧ Below W.heap.size W w') := Lib.hid fun W S => (covers_any _ ts ss lo hi 0 0 W (up W S) hc hq).mono (by
              rintro e w' ⟨r, b, rfl, h | ⟨_, h⟩, hb⟩
              · exact absurd rfl h.1
              · obtain ⟨rfl, rfl⟩ := hcov.unique h
                exact ⟨rfl, hb⟩)
            have hv : hasV ts ss mm = setB (lotsOf ts ss) mm := by simp [hasV, show mokB mm = true from decide_eq_true ⟨by omega, by omega⟩]
            have HA := Lib.hid fun W (S : N3d w (.slice A k c) (.slice A' k' c') (.slice B l d) (.slice B' l' d') (.int .i64 lo) (.int .i64 hi) W) => has_any A A' k c k' c' ts ss mm W (up W S) hc
            rw [hv] at HA
            have i1 := inS_spn (setB (lotsOf ts ss)) lo (hi + 1 - lo).toNat mm n0 (by omega)
            have i2 := inS_spn (notH (setB (lotsOf ts ss))) lo (hi + 1 - lo).toNat mm n0 (by omega)
            have i3 := inS_spn (andH (setB (lotsOf ts ss)) (setB (lotsOf ts2 ss2))) lo (hi + 1 - lo).toNat mm n0 (by omega)
            have i4 := inS_spn (setB (lotsOf ts2 ss2)) lo (hi + 1 - lo).toNat mm n0 (by omega)
            have ln : ∀ H : Int → Bool, ∀ v W, RS W.heap.size v (spn H lo (hi + 1 - lo).toNat) W → Calls Tryd.prog 61 #[v] W fun e w' => e = .returned (.int .i64 (tot (spn H lo (hi + 1 - lo).toNat))) ∧ Below W.heap.size W w' := fun H v W h => long_any v _ W h (mins_spn b0 b2) (by have := short H hs; omega)
            have ap : ∀ H : Int → Bool, Hid (∀ v W, RS W.heap.size v (spn H lo (hi + 1 - lo).toNat) W → Calls Tryd.prog 63 #[v] W fun e w' => e = .returned (.bool true) ∧ Below W.heap.size W w') := fun H => Lib.hid fun v W h => apart_any v _ W h (mins_spn b0 b2) (apart_spn _ _ _)
            have LG1 := Lib.hid (ln (setB (lotsOf ts ss)))
            have LG2 := Lib.hid (ln (notH (setB (lotsOf ts ss))))
            have IN1 := Lib.hid fun v W (h : RS W.heap.size v (spn (setB (lotsOf ts ss)) lo (hi + 1 - lo).toNat) W) => within_law v _ mm W h
            have IN2 := Lib.hid fun v W (h : RS W.heap.size v (spn (notH (setB (lotsOf ts ss))) lo (hi + 1 - lo).toNat) W) => within_law v _ mm W h
            have IN3 := Lib.hid fun v W (h : RS W.heap.size v (spn (andH (setB (lotsOf ts ss)) (setB (lotsOf ts2 ss2))) lo (hi + 1 - lo).toNat) W) => within_law v _ mm W h
            have IN4 := Lib.hid fun v W (h : RS W.heap.size v (spn (setB (lotsOf ts2 ss2)) lo (hi + 1 - lo).toNat) W) => within_law v _ mm W h
            rw [i1] at IN1
            rw [i2] at IN2
            rw [i3] at IN3
            rw [i4] at IN4
            have hT : tot (spn (setB (lotsOf ts ss)) lo (hi + 1 - lo).toNat) + tot (spn (notH (setB (lotsOf ts ss))) lo (hi + 1 - lo).toNat) = hi - lo + 1 := by rw [cntH_sum]; omega
            unfold notH at IN2
            unfold andH at IN3
            cases x1 : setB (lotsOf ts ss) mm with
            | true =>
              rw [x1] at HA IN1 IN2 IN3
              rcases hfirst with ⟨hG, rfl⟩ | ⟨x0, gl, hG, rfl, hp⟩
              · exact whole_all_in A A' B B' k c k' c' l d l' d' lo hi sm mm _ _ p _ _ _ _ _ w F1 F2 F3 (Lib.hid hsan) C1 C2 C3 C4 C5 C6 HA LG1 LG2 IN1 IN2 IN3 IN4 (ap _) (ap _) (ap _) s0 s1 b0 b1 b2 hT hmm hG
              · exact whole_some_in A A' B B' k c k' c' l d l' d' lo hi sm mm _ _ p _ _ _ _ _ w F1 F2 F3 (Lib.hid hsan) C1 C2 C3 C4 C5 C6 HA LG1 LG2 IN1 IN2 IN3 IN4 (ap _) (ap _) (ap _) s0 s1 b0 b1 b2 hT hmm x0 gl hG hp
            | false =>
              rw [x1] at HA IN1 IN2 IN3
              rcases hfirst with ⟨hG, rfl⟩ | ⟨x0, gl, hG, rfl, hp⟩
              · rcases hcov with ⟨_, _, h⟩ | ⟨h, _⟩
                · rw [h mm n0 n1] at x1; cases x1
                · cases h
              · exact whole_some_out A A' B B' k c k' c' l d l' d' lo hi sm mm _ _ p (setB (lotsOf ts2 ss2) mm) _ _ _ _ w F1 F2 F3 (Lib.hid hsan) C1 C2 C3 C4 C5 C6 HA LG1 LG2 IN1 IN2 IN3 (ap _) (ap _) (ap _) s0 s1 b0 b1 b2 hT hmm x0 gl hG hp
          · obtain ⟨e1, e2⟩ : q1 = ck' ∧ q4 = ck' := by
              rcases hq0 with ⟨a, _⟩ | ⟨_, rfl⟩
              · exact absurd rfl a
              · rcases hq1 with ⟨a, rfl⟩ | ⟨_, _, a⟩ | ⟨_, a, _⟩
                · rcases hq4 with ⟨_, rfl⟩ | ⟨b, _⟩ | ⟨b, _⟩
                  · exact ⟨rfl, rfl⟩
                  · exact absurd b a
                  · exact absurd b a
                · exact absurd a hq1'
                · exact absurd hs a
            subst e1 e2
            obtain ⟨p, bo, hcov, _⟩ := CovIs.exists_ (setB (lotsOf ts ss)) lo hi b1
            exact wholeLaw_err2 hsan A A' B B' k c k' c' l d l' d' lo hi sm r p bo w _ hq1' f1 f2 f3
              (Lib.hid fun W S => (spans_any _ ts ss lo hi 0 0 W (up W S) hc hq).mono fun e w' h => any (.inr (short _ hs)) h)
              (Lib.hid fun W S => (rest_any _ ts ss lo hi 0 0 W (up W S) hc hq).mono fun e w' h => any (.inr (short _ hs)) h)
              (Lib.hid fun W S => (common_any _ _ ts ss ts2 ss2 lo hi 0 _ q0 _ W (up W S) (up' W S) hc hc' hq0 hq1).mono fun e w' h => any (.inl hq1') h)
              (Lib.hid fun W S => (spans_any _ ts2 ss2 lo hi _ _ W (up' W S) hc' hq4).mono fun e w' h => any (.inl hq1') h)
              (Lib.hid fun W S => count_any _ ts ss lo hi 0 0 r W (up W S) hc hq hr)
              (Lib.hid fun W S => (covers_any _ ts ss lo hi 0 0 W (up W S) hc hq).mono (by
                rintro e w' ⟨r, b, rfl, h | ⟨_, h⟩, hb⟩
                · exact absurd rfl h.1
                · obtain ⟨rfl, rfl⟩ := hcov.unique h
                  exact ⟨rfl, hb⟩))
        · have lim : ∀ {d : Int} {full : List S2} {W : World} {e : Ending} {w' : World}, (d = 0 → SOk lo hi) → (SOk lo hi → full.length ≤ 2000) → ListPost d full W e w' → ∃ v, e = .returned (.tuple #[v, .int .i64 d]) ∧ Below W.heap.size W w' := by
            intro d full W e w' h1 h2 h
            by_cases h0 : d = 0
            · exact any (.inr (h2 (h1 h0))) h
            · exact any (.inl h0) h
          exact wholeLaw_err1 hsan A A' B B' k c k' c' l d l' d' lo hi sm r 0 false w q q1 q4 hq' f1 f2 f3
            (Lib.hid fun W S => (spans_any _ ts ss lo hi ck q W (up W S) hc hq).mono fun e w' h => any (.inl hq') h)
            (Lib.hid fun W S => (rest_any _ ts ss lo hi ck q W (up W S) hc hq).mono fun e w' h => any (.inl hq') h)
            (Lib.hid fun W S => (common_any _ _ ts ss ts2 ss2 lo hi ck ck' q0 q1 W (up W S) (up' W S) hc hc' hq0 hq1).mono fun e w' h => lim (fun h0 => by subst h0; exact (inIs_ok hq1).2) (short _) h)
            (Lib.hid fun W S => (spans_any _ ts2 ss2 lo hi ck' q4 W (up' W S) hc' hq4).mono fun e w' h => lim (fun h0 => by subst h0; exact (inIs_ok hq4).2) (short _) h)
            (Lib.hid fun W S => count_any _ ts ss lo hi ck q r W (up W S) hc hq hr)
            (Lib.hid fun W S => (covers_any _ ts ss lo hi ck q W (up W S) hc hq).mono (by
              rintro e w' ⟨r, b, rfl, ⟨_, rfl, rfl⟩ | ⟨h, _⟩, hb⟩
              · exact ⟨rfl, hb⟩
              · exact absurd h hq'))
end Go.Proofs.YtlhgpeelenelbaaDoor
