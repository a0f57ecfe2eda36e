/- Contracts of the checks of turns, minutes and spans, and of plain arithmetic. -/
import Derived.Test.YtcdodfehnkgjdaaGreatDoorProg
import Derived.Test.YtcdodfehnkgjdaaGreatDoorMM
import Derived.WalkKit
import Derived.WalkSpells
import Derived.WalkLawsBesides
import Derived.BigQuiet
import Derived.Lib.Hide
namespace Go.Proofs.YtcdodfehnkgjdaaGreatDoor
open Go.RowKit

/-- The value of a turn. -/
abbrev tv (p f l : Int) : Value := .agg #[.int .i64 p, .int .i64 f, .int .i64 l]
abbrev sv2 (lo hi : Int) : Value := .agg #[.int .i64 lo, .int .i64 hi]

theorem ret_int {k : IntKind} {a b : Int} (h : a = b) : Ending.returned (.int k a) = .returned (.int k b) := by rw [h]

set_option maxHeartbeats 400000 in
theorem checkTurn_ok (p f l : Int) (w : World) (h : TOk p f l) :
    Calls Tryz.prog 39 #[tv p f l] w fun e w' => e = .returned (.int .i64 0) ∧ Below w.heap.size w w' := by
  obtain ⟨h1, h2, h3, h4, h5, h6⟩ := h
  go_enter Tryz.func39, Tryz.ntmps39
  go_wp2
  go_ret
  exact ⟨rfl, (Below.refl _ _).alloc (Nat.le_refl _) _⟩

theorem not_tok {p f l : Int} (h : ¬ TOk p f l) : p < 1 ∨ (1 ≤ p ∧ 40320 < p) ∨ (1 ≤ p ∧ p ≤ 40320 ∧ f < 0) ∨ (1 ≤ p ∧ p ≤ 40320 ∧ 0 ≤ f ∧ p ≤ f) ∨ (1 ≤ p ∧ p ≤ 40320 ∧ 0 ≤ f ∧ f < p ∧ l < 1) ∨ (1 ≤ p ∧ p ≤ 40320 ∧ 0 ≤ f ∧ f < p ∧ 1 ≤ l ∧ p < l) := by
  unfold TOk at h; omega

set_option maxHeartbeats 1000000 in
theorem checkTurn_bad (p f l : Int) (w : World) (h : ¬ TOk p f l) :
    Calls Tryz.prog 39 #[tv p f l] w fun e w' => e = .returned (.int .i64 1) ∧ Below w.heap.size w w' := by
  rcases not_tok h with h1 | ⟨h1, h2⟩ | ⟨h1, h2, h3⟩ | ⟨h1, h2, h3, h4⟩ | ⟨h1, h2, h3, h4, h5⟩ | ⟨h1, h2, h3, h4, h5, h6⟩ <;> clear h
  all_goals
    go_enter Tryz.func39, Tryz.ntmps39
    go_wp2
    go_ret
    exact ⟨rfl, (Below.refl _ _).alloc (Nat.le_refl _) _⟩

set_option maxHeartbeats 400000 in
theorem remainder_any (n m : Int) (w : World) (h1 : 1 ≤ m) (h2 : m ≤ 9000000000000000) (h3 : -9000000000000000 ≤ n) (h4 : n ≤ 9000000000000000) :
    Calls Tryz.prog 36 #[.int .i64 n, .int .i64 m] w fun e w' => e = .returned (.int .i64 (n % m)) ∧ w = w' := by
  have hz : (m == 0) = false := beq_eq_false_iff_ne.2 (by omega)
  by_cases hn : 0 ≤ n
  · have hp : 0 ≤ n % m := Int.emod_nonneg _ (by omega)
    go_enter Tryz.func36, Tryz.ntmps36
    go_wp2
    go_ret
    exact ⟨rfl, rfl⟩
  · have hlo : -m < n.tmod m := by have := Int.lt_tmod_of_pos n (show (0:Int) < m by omega); omega
    have hhi : n.tmod m ≤ 0 := by
      have := Int.tmod_nonneg (a := -n) m (by omega); rw [Int.neg_tmod] at this; omega
    have he : n % m = if n.tmod m < 0 then n.tmod m + m else n.tmod m := by
      have h1 := Int.tmod_eq_emod (a := n) (b := m)
      rw [h1]
      have h2 := Int.emod_nonneg n (show m ≠ 0 by omega)
      have h3 := Int.emod_lt_of_pos n (show 0 < m by omega)
      split <;> split <;> simp_all <;> omega
    have H := Lib.hid he
    clear he
    by_cases hm : n.tmod m < 0
    all_goals
      go_enter Tryz.func36, Tryz.ntmps36
      go_wp2
      go_ret
    · exact ⟨by rw [H.out, if_pos hm]; rfl, rfl⟩
    · exact ⟨by rw [H.out, if_neg (by omega)]; rfl, rfl⟩
end Go.Proofs.YtcdodfehnkgjdaaGreatDoor
