/- Contracts of the greatest common divisor, the least common multiple, and of the tests on two turns. -/
import Derived.Test.YtcdodfehnkgjdaaGreatDoorA1
import Derived.StillTailTactics
import Derived.Deep.QuietTactic
import Derived.Deep.RegionHeld3
import Derived.Deep.LoopGhost
import Derived.Deep.DeepCutAuto
import Derived.Deep.DeepFit
import Derived.Outline
namespace Go.Proofs.YtcdodfehnkgjdaaGreatDoor
open Go.RowKit

theorem bcell {W w1 : World} (hb : Below W.heap.size W w1) : (∀ b o, b < W.heap.size → w1.cell? ⟨b, o, none⟩ = W.cell? ⟨b, o, none⟩) ∧ (∀ b o, b < W.heap.size → w1.frozen? ⟨b, o, none⟩ = W.frozen? ⟨b, o, none⟩) :=
  ⟨fun b o h => hb.cell (p := ⟨b, o, none⟩) h, fun b o h => hb.frozen (p := ⟨b, o, none⟩) h⟩

theorem flip_same {P : Program} {f : FuncId} {args : Array Value} {w : World} {v : Value} (h : Calls P f args w fun e w' => e = .returned v ∧ w = w') : Calls P f args w fun e w' => e = .returned v ∧ w' = w :=
  h.mono fun _ _ ⟨a, b⟩ => ⟨a, b.symm⟩

set_option maxHeartbeats 1000000 in
theorem divisor_any (a b : Int) (w : World) (ha : 0 ≤ a) (hb : 0 ≤ b) (ha' : a ≤ 9000000000000000) (hb' : b ≤ 9000000000000000) :
    Calls Tryz.prog 48 #[.int .i64 a, .int .i64 b] w fun e w' => e = .returned (.int .i64 (Int.gcd a b)) ∧ ∃ n, w' = w.drewN n := by
  go_enter Tryz.func48, Tryz.ntmps48
  go_wp2
  go_loopw [0, 1] (fun u v wr => ∃ x y : Int, u = .int .i64 x ∧ v = .int .i64 y ∧ 0 ≤ x ∧ 0 ≤ y ∧ x ≤ 9000000000000000 ∧ y ≤ 9000000000000000 ∧ Int.gcd x y = Int.gcd a b ∧ ∃ n, wr = w.drewN n) (fun _ v _ => (intOf v).toNat)
  case atStart => exact ⟨a, b, rfl, rfl, ha, hb, ha', hb', rfl, 0, rfl⟩
  case round =>
    obtain ⟨x, y, rfl, rfl, hx, hy, hx', hy', hg, n, rfl⟩ := hrel
    have Hg := Lib.hid hg
    clear hg
    by_cases hz : y = 0
    · subst hz
      go_wp2
      go_ret
      exact ⟨ret_int (by rw [← Hg.out]; simp; omega), n, rfl⟩
    · have hy0 : (y == 0) = false := beq_eq_false_iff_ne.2 hz
      have hy1 : (y != 0) = true := by rw [bne_iff_ne]; exact hz
      have h1 : 0 ≤ x % y := Int.emod_nonneg _ hz
      have h2 : x % y < y := Int.emod_lt_of_pos x (by omega)
      go_wp2
      go_quiet (fail)
      go_wp2
      go_roundw
      case rel => exact ⟨y, x % y, rfl, rfl, by omega, h1, by omega, by omega, by rw [gcd_step x y hx (by omega)]; exact Hg.out, _, World.drewN_drewN _ _ _⟩
      case measure => show (x % y).toNat < y.toNat; omega

set_option maxHeartbeats 1000000 in
theorem multiple_any (a b : Int) (w : World) (ha : 1 ≤ a) (hb : 1 ≤ b) (ha' : a ≤ 1000000000) (hb' : b ≤ 1000000000) :
    Calls Tryz.prog 52 #[.int .i64 a, .int .i64 b] w fun e w' => e = .returned (.int .i64 (a / (Int.gcd a b : Int) * b)) ∧ ∃ n, w' = w.drewN n := by
  have g1 := gcd_pos (b := b) ha
  have g2 := gcd_le (b := b) ha
  generalize hg : (Int.gcd a b : Int) = g at *
  have Hg := Lib.hid hg
  clear hg
  have hz : (g == 0) = false := beq_eq_false_iff_ne.2 (by omega)
  have d1 : 0 ≤ a / g := Int.ediv_nonneg (by omega) (by omega)
  have d2 : a / g ≤ a := Int.ediv_le_self _ (by omega)
  have m1 : 0 ≤ a / g * b := Int.mul_nonneg d1 (by omega)
  have m2 : a / g * b ≤ 1000000000 * 1000000000 := Int.mul_le_mul (by omega) (by omega) (by omega) (by omega)
  go_enter Tryz.func52, Tryz.ntmps52
  go_wp2_with fail
  refine (divisor_any a b _ (by omega) (by omega) (by omega) (by omega)).mono ?_
  rintro e w' ⟨rfl, n, rfl⟩
  rw [Hg.out]
  go_wp2_with fail
  go_ret
  exact ⟨rfl, n, rfl⟩

set_option maxHeartbeats 1000000 in
theorem keepsApart_any (pa fa la pb fb lb m : Int) (w : World) (ha : TOk pa fa la) (hb : TOk pb fb lb) (h1 : 1 ≤ m) (h2 : m ≤ 9000000000000000) :
    Calls Tryz.prog 47 #[tv pa fa la, tv pb fb lb, .int .i64 m] w fun e w' => e = .returned (.bool (kaB la ((fb - fa) % m) lb m)) ∧ Below w.heap.size w w' := by
  obtain ⟨a1, a2, a3, a4, a5, a6⟩ := ha
  obtain ⟨b1, b2, b3, b4, b5, b6⟩ := hb
  have d1 : 0 ≤ (fb - fa) % m := Int.emod_nonneg _ (by omega)
  have d2 : (fb - fa) % m < m := Int.emod_lt_of_pos _ (by omega)
  generalize hd : (fb - fa) % m = d at *
  have Hd := Lib.hid hd
  clear hd
  by_cases c1 : la ≤ d
  · by_cases c2 : d + lb ≤ m
    all_goals
      go_enter Tryz.func47, Tryz.ntmps47
      go_wp2_with fail
      refine (remainder_any (fb - fa) m _ (by omega) (by omega) (by omega) (by omega)).mono ?_
      rintro e w' ⟨rfl, rfl⟩
      rw [Hd.out]
      go_wp2_with fail
      go_ret
    · exact ⟨by simp [kaB, c1, c2], ((Below.refl _ _).alloc (Nat.le_refl _) _).alloc (by simp) _⟩
    · exact ⟨by simp [kaB]; omega, ((Below.refl _ _).alloc (Nat.le_refl _) _).alloc (by simp) _⟩
  · go_enter Tryz.func47, Tryz.ntmps47
    go_wp2_with fail
    refine (remainder_any (fb - fa) m _ (by omega) (by omega) (by omega) (by omega)).mono ?_
    rintro e w' ⟨rfl, rfl⟩
    rw [Hd.out]
    go_wp2_with fail
    go_ret
    exact ⟨by simp [kaB]; omega, ((Below.refl _ _).alloc (Nat.le_refl _) _).alloc (by simp) _⟩
end Go.Proofs.YtcdodfehnkgjdaaGreatDoor
