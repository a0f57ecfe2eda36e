/- Contracts of the specification's small functions: in, mod, Valid, CheckTurn, pair, divisor, multiple, touches. -/
import Derived.Test.YtcdodfehnkgjdaaGreatDoorA4
import Derived.Test.YtcdodfehnkgjdaaGreatDoorMM
namespace Go.Proofs.YtcdodfehnkgjdaaGreatDoor
open Go.RowKit

def inB (n lo hi : Int) : Bool := decide (lo ≤ n ∧ n ≤ hi)

set_option maxHeartbeats 400000 in
theorem rin_yes (n lo hi : Int) (w : World) (h : lo ≤ n) (h' : n ≤ hi) :
    Calls Tryz.prog 37 #[.int .i64 n, .int .i64 lo, .int .i64 hi] w fun e w' => e = .returned (.bool true) ∧ w = w' := by
  go_enter Tryz.func37, Tryz.ntmps37
  go_wp2
  go_ret
  exact ⟨rfl, rfl⟩

set_option maxHeartbeats 400000 in
theorem rin_no (n lo hi : Int) (w : World) (h : ¬ (lo ≤ n ∧ n ≤ hi)) :
    Calls Tryz.prog 37 #[.int .i64 n, .int .i64 lo, .int .i64 hi] w fun e w' => e = .returned (.bool false) ∧ w = w' := by
  by_cases c : lo ≤ n
  · have c' : hi < n := by omega
    clear h
    go_enter Tryz.func37, Tryz.ntmps37
    go_wp2
    go_ret
    exact ⟨by show Ending.returned (Value.bool (decide (n ≤ hi))) = _; rw [decide_eq_false (by omega)], rfl⟩
  · clear h
    go_enter Tryz.func37, Tryz.ntmps37
    go_wp2
    go_ret
    exact ⟨rfl, rfl⟩

set_option maxHeartbeats 400000 in
theorem rmod_any (a b : Int) (w : World) (h1 : 1 ≤ b) (h2 : b ≤ 9000000000000000) (h3 : -9000000000000000 ≤ a) (h4 : a ≤ 9000000000000000) :
    Calls Tryz.prog 38 #[.int .i64 a, .int .i64 b] w fun e w' => e = .returned (.int .i64 (a % b)) ∧ w = w' := by
  have hz : (b == 0) = false := beq_eq_false_iff_ne.2 (by omega)
  by_cases hn : 0 ≤ a
  · have hp : 0 ≤ a % b := Int.emod_nonneg _ (by omega)
    have hq : a % b < b := Int.emod_lt_of_pos _ (by omega)
    have H : (a % b + b) % b = a % b := by rw [Int.add_emod_right, Int.emod_emod_of_dvd _ (Int.dvd_refl b)]
    have H' := Lib.hid H
    clear H
    go_enter Tryz.func38, Tryz.ntmps38
    go_wp2
    go_ret
    exact ⟨ret_int H'.out, rfl⟩
  · have hlo : -b < a.tmod b := by have := Int.lt_tmod_of_pos a (show (0:Int) < b by omega); omega
    have hhi : a.tmod b ≤ 0 := by
      have := Int.tmod_nonneg (a := -a) b (by omega); rw [Int.neg_tmod] at this; omega
    have H : a.tmod b % b = a % b := by
      apply emod_of_dvd
      have := Int.mul_tdiv_add_tmod a b
      exact ⟨-(a.tdiv b), by rw [Int.mul_neg]; omega⟩
    have H' := Lib.hid H
    clear H
    go_enter Tryz.func38, Tryz.ntmps38
    go_wp2
    go_ret
    exact ⟨ret_int H'.out, rfl⟩

set_option maxHeartbeats 1000000 in
theorem valid_ok (p f l : Int) (w : World) (h : TOk p f l) :
    Calls Tryz.prog 69 #[tv p f l] w fun e w' => e = .returned (.bool true) ∧ Below w.heap.size w w' := by
  obtain ⟨h1, h2, h3, h4, h5, h6⟩ := h
  go_enter Tryz.func69, Tryz.ntmps69
  go_wp2_with fail
  refine (rin_yes p 1 40320 _ (by omega) (by omega)).mono ?_
  rintro e w' ⟨rfl, rfl⟩
  go_wp2_with fail
  refine (rin_yes f 0 (p - 1) _ (by omega) (by omega)).mono ?_
  rintro e w' ⟨rfl, rfl⟩
  go_wp2_with fail
  refine (rin_yes l 1 p _ (by omega) (by omega)).mono ?_
  rintro e w' ⟨rfl, rfl⟩
  go_wp2_with fail
  go_ret
  exact ⟨rfl, (Below.refl _ _).alloc (Nat.le_refl _) _⟩

set_option maxHeartbeats 1000000 in
theorem valid_bad (p f l : Int) (w : World) (h : ¬ TOk p f l) :
    Calls Tryz.prog 69 #[tv p f l] w fun e w' => e = .returned (.bool false) ∧ Below w.heap.size w w' := by
  by_cases c1 : 1 ≤ p ∧ p ≤ 40320
  · by_cases c2 : 0 ≤ f ∧ f ≤ p - 1
    · have c3 : ¬ (1 ≤ l ∧ l ≤ p) := by unfold TOk at h; omega
      have C3 := Lib.hid c3
      clear h c3
      obtain ⟨h1, h2⟩ := c1
      obtain ⟨h3, h4⟩ := c2
      go_enter Tryz.func69, Tryz.ntmps69
      go_wp2_with fail
      refine (rin_yes p 1 40320 _ (by omega) (by omega)).mono ?_
      rintro e w' ⟨rfl, rfl⟩
      go_wp2_with fail
      refine (rin_yes f 0 (p - 1) _ (by omega) (by omega)).mono ?_
      rintro e w' ⟨rfl, rfl⟩
      go_wp2_with fail
      refine (rin_no l 1 p _ C3.out).mono ?_
      rintro e w' ⟨rfl, rfl⟩
      go_wp2_with fail
      go_ret
      exact ⟨rfl, (Below.refl _ _).alloc (Nat.le_refl _) _⟩
    · have C2 := Lib.hid c2
      clear h c2
      obtain ⟨h1, h2⟩ := c1
      go_enter Tryz.func69, Tryz.ntmps69
      go_wp2_with fail
      refine (rin_yes p 1 40320 _ (by omega) (by omega)).mono ?_
      rintro e w' ⟨rfl, rfl⟩
      go_wp2_with fail
      refine (rin_no f 0 (p - 1) _ C2.out).mono ?_
      rintro e w' ⟨rfl, rfl⟩
      go_wp2_with fail
      go_ret
      exact ⟨rfl, (Below.refl _ _).alloc (Nat.le_refl _) _⟩
  · have C1 := Lib.hid c1
    clear h c1
    go_enter Tryz.func69, Tryz.ntmps69
    go_wp2_with fail
    refine (rin_no p 1 40320 _ C1.out).mono ?_
    rintro e w' ⟨rfl, rfl⟩
    go_wp2_with fail
    go_ret
    exact ⟨rfl, (Below.refl _ _).alloc (Nat.le_refl _) _⟩

def tokB (p f l : Int) : Bool := decide (1 ≤ p ∧ p ≤ 40320 ∧ 0 ≤ f ∧ f < p ∧ 1 ≤ l ∧ l ≤ p)
theorem tokB_true {p f l : Int} : tokB p f l = true ↔ TOk p f l := by simp [tokB, TOk]
theorem valid_any (p f l : Int) (w : World) :
    Calls Tryz.prog 69 #[tv p f l] w fun e w' => e = .returned (.bool (tokB p f l)) ∧ Below w.heap.size w w' := by
  by_cases h : TOk p f l
  · rw [tokB_true.2 h]; exact valid_ok p f l w h
  · rw [show tokB p f l = false by rw [← Bool.not_eq_true, tokB_true]; exact h]; exact valid_bad p f l w h

def toB (f l m r : Int) : Bool := decide ((r - f) % m < l)

/-- Whether an integer is in a turn, as a Bool. -/
def itB (p f l n : Int) : Bool := decide ((n - f) % p < l)
end Go.Proofs.YtcdodfehnkgjdaaGreatDoor
