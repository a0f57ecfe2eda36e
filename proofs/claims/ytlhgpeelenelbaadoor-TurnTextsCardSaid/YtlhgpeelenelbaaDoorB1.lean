/- Contracts of the specification's small functions: in, mod, Valid, CheckTurn, pair, divisor, multiple, touches. -/
import Derived.Test.YtlhgpeelenelbaaDoorA4
import Derived.Test.YtlhgpeelenelbaaDoorM2
namespace Go.Proofs.YtlhgpeelenelbaaDoor
open Go.RowKit

def inB (n lo hi : Int) : Bool := decide (lo ≤ n ∧ n ≤ hi)

set_option maxHeartbeats 400000 in
theorem rin_yes (n lo hi : Int) (w : World) (h : lo ≤ n) (h' : n ≤ hi) :
    Calls Tryd.prog 120 #[.int .i64 n, .int .i64 lo, .int .i64 hi] w fun e w' => e = .returned (.bool true) ∧ w = w' := by
  go_enter Tryd.func120, Tryd.ntmps120
  go_wp2
  go_ret
  exact ⟨rfl, rfl⟩

set_option maxHeartbeats 400000 in
theorem rin_no (n lo hi : Int) (w : World) (h : ¬ (lo ≤ n ∧ n ≤ hi)) :
    Calls Tryd.prog 120 #[.int .i64 n, .int .i64 lo, .int .i64 hi] w fun e w' => e = .returned (.bool false) ∧ w = w' := by
  by_cases c : lo ≤ n
  · have c' : hi < n := by omega
    clear h
    go_enter Tryd.func120, Tryd.ntmps120
    go_wp2
    go_ret
    exact ⟨by show Ending.returned (Value.bool (decide (n ≤ hi))) = _; rw [decide_eq_false (by omega)], rfl⟩
  · clear h
    go_enter Tryd.func120, Tryd.ntmps120
    go_wp2
    go_ret
    exact ⟨rfl, rfl⟩

set_option maxHeartbeats 400000 in
theorem rmod_any (a b : Int) (w : World) (h1 : 1 ≤ b) (h2 : b ≤ 9000000000000000) (h3 : -9000000000000000 ≤ a) (h4 : a ≤ 9000000000000000) :
    Calls Tryd.prog 90 #[.int .i64 a, .int .i64 b] w fun e w' => e = .returned (.int .i64 (a % b)) ∧ w = w' := by
  have hz : (b == 0) = false := beq_eq_false_iff_ne.2 (by omega)
  by_cases hn : 0 ≤ a
  · have hp : 0 ≤ a % b := Int.emod_nonneg _ (by omega)
    have hq : a % b < b := Int.emod_lt_of_pos _ (by omega)
    have H : (a % b + b) % b = a % b := by rw [Int.add_emod_right, Int.emod_emod_of_dvd _ (Int.dvd_refl b)]
    have H' := Lib.hid H
    clear H
    go_enter Tryd.func90, Tryd.ntmps90
    go_wp2
    go_ret
    exact ⟨ret_int H'.out, rfl⟩
  · have hlo : -b < a.tmod b := by have := Int.lt_tmod_of_pos a (show (0:Int) < b by omega); omega
    have hhi : a.tmod b ≤ 0 := by
      have := Int.tmod_nonneg (a := -a) b (by omega); rw [Int.neg_tmod] at this; omega
    have H : a.tmod b % b = a % b := by
      apply emod_of_dvd
      have := Int.mul_tdiv_add_tmod a b
      exact ⟨-(a.tdiv b), by rw [Int.mul_neg]; omega⟩
    have H' := Lib.hid H
    clear H
    go_enter Tryd.func90, Tryd.ntmps90
    go_wp2
    go_ret
    exact ⟨ret_int H'.out, rfl⟩

set_option maxHeartbeats 1000000 in
theorem valid_ok (p f l : Int) (w : World) (h : TOk p f l) :
    Calls Tryd.prog 76 #[tv p f l] w fun e w' => e = .returned (.bool true) ∧ Below w.heap.size w w' := by
  obtain ⟨h1, h2, h3, h4, h5, h6⟩ := h
  go_enter Tryd.func76, Tryd.ntmps76
  go_wp2_with fail
  refine (rin_yes p 1 40320 _ (by omega) (by omega)).mono ?_
  rintro e w' ⟨rfl, rfl⟩
  go_wp2_with fail
  refine (rin_yes f 0 (p - 1) _ (by omega) (by omega)).mono ?_
  rintro e w' ⟨rfl, rfl⟩
  go_wp2_with fail
  refine (rin_yes l 1 p _ (by omega) (by omega)).mono ?_
  rintro e w' ⟨rfl, rfl⟩
  go_wp2_with fail
  go_ret
  exact ⟨rfl, (Below.refl _ _).alloc (Nat.le_refl _) _⟩

set_option maxHeartbeats 1000000 in
theorem valid_bad (p f l : Int) (w : World) (h : ¬ TOk p f l) :
    Calls Tryd.prog 76 #[tv p f l] w fun e w' => e = .returned (.bool false) ∧ Below w.heap.size w w' := by
  by_cases c1 : 1 ≤ p ∧ p ≤ 40320
  · by_cases c2 : 0 ≤ f ∧ f ≤ p - 1
    · have c3 : ¬ (1 ≤ l ∧ l ≤ p) := by unfold TOk at h; omega
      have C3 := Lib.hid c3
      clear h c3
      obtain ⟨h1, h2⟩ := c1
      obtain ⟨h3, h4⟩ := c2
      go_enter Tryd.func76, Tryd.ntmps76
      go_wp2_with fail
      refine (rin_yes p 1 40320 _ (by omega) (by omega)).mono ?_
      rintro e w' ⟨rfl, rfl⟩
      go_wp2_with fail
      refine (rin_yes f 0 (p - 1) _ (by omega) (by omega)).mono ?_
      rintro e w' ⟨rfl, rfl⟩
      go_wp2_with fail
      refine (rin_no l 1 p _ C3.out).mono ?_
      rintro e w' ⟨rfl, rfl⟩
      go_wp2_with fail
      go_ret
      exact ⟨rfl, (Below.refl _ _).alloc (Nat.le_refl _) _⟩
    · have C2 := Lib.hid c2
      clear h c2
      obtain ⟨h1, h2⟩ := c1
      go_enter Tryd.func76, Tryd.ntmps76
      go_wp2_with fail
      refine (rin_yes p 1 40320 _ (by omega) (by omega)).mono ?_
      rintro e w' ⟨rfl, rfl⟩
      go_wp2_with fail
      refine (rin_no f 0 (p - 1) _ C2.out).mono ?_
      rintro e w' ⟨rfl, rfl⟩
      go_wp2_with fail
      go_ret
      exact ⟨rfl, (Below.refl _ _).alloc (Nat.le_refl _) _⟩
  · have C1 := Lib.hid c1
    clear h c1
    go_enter Tryd.func76, Tryd.ntmps76
    go_wp2_with fail
    refine (rin_no p 1 40320 _ C1.out).mono ?_
    rintro e w' ⟨rfl, rfl⟩
    go_wp2_with fail
    go_ret
    exact ⟨rfl, (Below.refl _ _).alloc (Nat.le_refl _) _⟩

def tokB (p f l : Int) : Bool := decide (1 ≤ p ∧ p ≤ 40320 ∧ 0 ≤ f ∧ f < p ∧ 1 ≤ l ∧ l ≤ p)
theorem tokB_true {p f l : Int} : tokB p f l = true ↔ TOk p f l := by simp [tokB, TOk]
theorem valid_any (p f l : Int) (w : World) :
    Calls Tryd.prog 76 #[tv p f l] w fun e w' => e = .returned (.bool (tokB p f l)) ∧ Below w.heap.size w w' := by
  by_cases h : TOk p f l
  · rw [tokB_true.2 h]; exact valid_ok p f l w h
  · rw [show tokB p f l = false by rw [← Bool.not_eq_true, tokB_true]; exact h]; exact valid_bad p f l w h

set_option maxHeartbeats 1000000 in
theorem rpair_any (pa fa la pb fb lb : Int) (c : Int) (w : World) (h : (TOk pa fa la ∧ TOk pb fb lb ∧ c = 0) ∨ ((¬ TOk pa fa la ∨ ¬ TOk pb fb lb) ∧ c = 1)) :
    Calls Tryd.prog 82 #[tv pa fa la, tv pb fb lb] w fun e w' => e = .returned (.int .i64 c) ∧ Below w.heap.size w w' := by
  have S0 := Lib.hid (SS.new (w := w) (pa := pa) (fa := fa) (la := la) (pb := pb) (fb := fb) (lb := lb) 27 27)
  have hx : (tokB pa fa la = true ∧ tokB pb fb lb = true ∧ c = 0) ∨ (tokB pa fa la = true ∧ tokB pb fb lb = false ∧ c = 1) ∨ (tokB pa fa la = false ∧ c = 1) := by
    have t1 := @tokB_true pa fa la
    have t2 := @tokB_true pb fb lb
    cases h1 : tokB pa fa la <;> cases h2 : tokB pb fb lb <;> simp_all
  have Va := fun w => valid_any pa fa la w
  have Vb := fun w => valid_any pb fb lb w
  generalize tokB pa fa la = x at *
  generalize tokB pb fb lb = y at *
  clear h
  have Va' := Lib.hid Va
  have Vb' := Lib.hid Vb
  clear Va Vb
  rcases hx with ⟨rfl, rfl, rfl⟩ | ⟨rfl, rfl, rfl⟩ | ⟨rfl, rfl⟩
  all_goals
    go_enter Tryd.func82, Tryd.ntmps82
    go_wp2_with fail
    refine (Va'.out _).mono ?_
    rintro e w1 ⟨rfl, h1⟩
    have S1 := SS.below S0.out h1
    clear h1
    have S1' := Lib.hid S1
    obtain ⟨t0, t1, t2, t3, t4, t5, t6, _⟩ := S1
    go_wp2_with fail
    refine (Vb'.out _).mono ?_
    rintro e w2 ⟨rfl, h2⟩
    have S2' := Lib.hid (SS.below S1'.out h2)
    clear h2 t0 t1 t2 t3 t4 t5 t6
  · go_wp2_with fail
    go_ret
    exact ⟨rfl, S2'.out.2.2.2.2.2.2.2⟩
  · go_wp2_with fail
    go_ret
    exact ⟨rfl, S2'.out.2.2.2.2.2.2.2⟩
  · cases y
    all_goals
      go_wp2_with fail
      go_ret
      exact ⟨rfl, S2'.out.2.2.2.2.2.2.2⟩

set_option maxHeartbeats 400000 in
theorem rcheckTurn_ok (p f l : Int) (w : World) (h : TOk p f l) :
    Calls Tryd.prog 24 #[tv p f l] w fun e w' => e = .returned (.int .i64 0) ∧ Below w.heap.size w w' := by
  go_enter Tryd.func24, Tryd.ntmps24
  go_wp2_with fail
  refine (valid_ok p f l _ h).mono ?_
  rintro e w1 ⟨rfl, h1⟩
  go_wp2_with fail
  go_ret
  exact ⟨rfl, ((Below.refl _ _).alloc (Nat.le_refl _) _).trans (h1.mono (by simp))⟩

set_option maxHeartbeats 400000 in
theorem rcheckTurn_bad (p f l : Int) (w : World) (h : ¬ TOk p f l) :
    Calls Tryd.prog 24 #[tv p f l] w fun e w' => e = .returned (.int .i64 1) ∧ Below w.heap.size w w' := by
  have H := Lib.hid h
  clear h
  go_enter Tryd.func24, Tryd.ntmps24
  go_wp2_with fail
  refine (valid_bad p f l _ H.out).mono ?_
  rintro e w1 ⟨rfl, h1⟩
  go_wp2_with fail
  go_ret
  exact ⟨rfl, ((Below.refl _ _).alloc (Nat.le_refl _) _).trans (h1.mono (by simp))⟩

set_option maxHeartbeats 1000000 in
theorem rdivisor_any (a b : Int) (w : World) (ha : 0 ≤ a) (hb : 0 ≤ b) (ha' : a ≤ 9000000000000000) (hb' : b ≤ 9000000000000000) :
    Calls Tryd.prog 88 #[.int .i64 a, .int .i64 b] w fun e w' => e = .returned (.int .i64 (Int.gcd a b)) ∧ w = w' := by
  go_enter Tryd.func88, Tryd.ntmps88
  go_wp2
  go_loop [0, 1] (fun u v => ∃ x y : Int, u = .int .i64 x ∧ v = .int .i64 y ∧ 0 ≤ x ∧ 0 ≤ y ∧ x ≤ 9000000000000000 ∧ y ≤ 9000000000000000 ∧ Int.gcd x y = Int.gcd a b) (fun _ v => (intOf v).toNat)
  case atStart => exact ⟨a, b, rfl, rfl, ha, hb, ha', hb', rfl⟩
  case round =>
    obtain ⟨x, y, rfl, rfl, hx, hy, hx', hy', hg⟩ := hrel
    have Hg := Lib.hid hg
    clear hg
    by_cases hz : 0 < y
    · have hy0 : (y == 0) = false := beq_eq_false_iff_ne.2 (by omega)
      have h1 : 0 ≤ x % y := Int.emod_nonneg _ (by omega)
      have h2 : x % y < y := Int.emod_lt_of_pos x (by omega)
      go_wp2
      go_round
      case rel => exact ⟨y, x % y, rfl, rfl, by omega, h1, by omega, by omega, by rw [gcd_step x y hx (by omega)]; exact Hg.out⟩
      case measure => show (x % y).toNat < y.toNat; omega
    · obtain rfl : y = 0 := by omega
      go_wp2
      go_ret
      exact ⟨ret_int (by rw [← Hg.out]; simp; omega), rfl⟩

set_option maxHeartbeats 1000000 in
theorem rmultiple_any (a b : Int) (w : World) (ha : 1 ≤ a) (hb : 1 ≤ b) (ha' : a ≤ 1000000000) (hb' : b ≤ 1000000000) :
    Calls Tryd.prog 83 #[.int .i64 a, .int .i64 b] w fun e w' => e = .returned (.int .i64 (a / (Int.gcd a b : Int) * b)) ∧ w = w' := by
  have g1 := gcd_pos (b := b) ha
  have g2 := gcd_le (b := b) ha
  have D := fun w => rdivisor_any a b w (by omega) (by omega) (by omega) (by omega)
  generalize (Int.gcd a b : Int) = g at *
  have D' := Lib.hid D
  clear D
  have hz : (g == 0) = false := beq_eq_false_iff_ne.2 (by omega)
  have d1 : 0 ≤ a / g := Int.ediv_nonneg (by omega) (by omega)
  have d2 : a / g ≤ a := Int.ediv_le_self _ (by omega)
  have m1 : 0 ≤ a / g * b := Int.mul_nonneg d1 (by omega)
  have m2 : a / g * b ≤ 1000000000 * 1000000000 := Int.mul_le_mul (by omega) (by omega) (by omega) (by omega)
  go_enter Tryd.func83, Tryd.ntmps83
  go_wp2_with fail
  refine (D'.out _).mono ?_
  rintro e w' ⟨rfl, rfl⟩
  go_wp2_with fail
  go_ret
  exact ⟨rfl, rfl⟩

def toB (f l m r : Int) : Bool := decide ((r - f) % m < l)

set_option maxHeartbeats 1000000 in
theorem touches_any (p f l m r : Int) (w : World) (h : TOk p f l) (h1 : 1 ≤ m) (h2 : m ≤ 9000000000) (h3 : 0 ≤ r) (h4 : r ≤ 9000000000) :
    Calls Tryd.prog 123 #[tv p f l, .int .i64 m, .int .i64 r] w fun e w' => e = .returned (.bool (toB f l m r)) ∧ Below w.heap.size w w' := by
  obtain ⟨a1, a2, a3, a4, a5, a6⟩ := h
  have C := fun w => rmod_any (r - f) m w h1 (by omega) (by omega) (by omega)
  have HF : Hid (toB f l m r = decide ((r - f) % m < l)) := Lib.hid rfl
  generalize (r - f) % m = d at *
  have C' := Lib.hid C
  clear C
  have W1 : IntKind.i64.wrap (r - f) = r - f := IntWalk.i64_in _ (by omega)
  go_enter Tryd.func123, Tryd.ntmps123
  go_wp2_with fail
  go_quiet ((go_at_call 90; exact Calls.quiet_of_same (flip_same (C'.out _))))
  go_wp2_with fail
  go_ret
  exact ⟨by rw [HF.out]; rfl, below_drewN ((Below.refl _ _).alloc (Nat.le_refl _) _) _⟩

/-- Whether an integer is in a turn, as a Bool. -/
def itB (p f l n : Int) : Bool := decide ((n - f) % p < l)
set_option maxHeartbeats 1000000 in
theorem rinTurn_any (p f l n : Int) (w : World) (h : TOk p f l) (h3 : -9000000000000 ≤ n) (h4 : n ≤ 9000000000000) :
    Calls Tryd.prog 119 #[tv p f l, .int .i64 n] w fun e w' => e = .returned (.bool (itB p f l n)) ∧ Below w.heap.size w w' := by
  obtain ⟨a1, a2, a3, a4, a5, a6⟩ := h
  have C := fun w => rmod_any (n - f) p w a1 (by omega) (by omega) (by omega)
  have HF : Hid (itB p f l n = decide ((n - f) % p < l)) := Lib.hid rfl
  generalize (n - f) % p = d at *
  have C' := Lib.hid C
  clear C
  have W1 : IntKind.i64.wrap (n - f) = n - f := IntWalk.i64_in _ (by omega)
  go_enter Tryd.func119, Tryd.ntmps119
  go_wp2_with fail
  go_quiet ((go_at_call 90; exact Calls.quiet_of_same (flip_same (C'.out _))))
  go_wp2_with fail
  go_ret
  exact ⟨by rw [HF.out]; rfl, below_drewN ((Below.refl _ _).alloc (Nat.le_refl _) _) _⟩

set_option maxHeartbeats 1000000 in
theorem after_any (p f l n : Int) (w : World) (h : TOk p f l) (h3 : -9000000000000 ≤ n) (h4 : n ≤ 9000000000000) :
    Calls Tryd.prog 73 #[tv p f l, .int .i64 n] w fun e w' => e = .returned (.int .i64 (afterF p f l n)) ∧ Below w.heap.size w w' := by
  obtain ⟨a1, a2, a3, a4, a5, a6⟩ := h
  have C := fun w => rmod_any (n - f) p w a1 (by omega) (by omega) (by omega)
  have HF : Hid (afterF p f l n = if (n - f) % p < l then n else n + p - (n - f) % p) := Lib.hid rfl
  have e1 : 0 ≤ (n - f) % p := Int.emod_nonneg _ (by omega)
  have e2 : (n - f) % p < p := Int.emod_lt_of_pos _ (by omega)
  generalize (n - f) % p = d at *
  have C' := Lib.hid C
  clear C
  by_cases c : d < l
  all_goals
    go_enter Tryd.func73, Tryd.ntmps73
    go_wp2_with fail
    refine (C'.out _).mono ?_
    rintro e w' ⟨rfl, rfl⟩
    go_wp2_with fail
    go_ret
  · exact ⟨ret_int (by rw [HF.out, if_pos c]), (Below.refl _ _).alloc (Nat.le_refl _) _⟩
  · exact ⟨ret_int (by rw [HF.out, if_neg (by omega)]), (Below.refl _ _).alloc (Nat.le_refl _) _⟩
end Go.Proofs.YtlhgpeelenelbaaDoor
