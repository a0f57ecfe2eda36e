/- Plain mathematics: the runs of a turn or a span, and which one is kept. -/
import Derived.Test.YtlhgpeelenelbaaDoorM2
namespace Go.Proofs.YtlhgpeelenelbaaDoor

/-- Where a span's run from n on begins, and ends. -/
def sFrom (lo hi n : Int) : Int := if hi < n then 1099511627776 else lo
def sFromHi (hi n : Int) : Int := if hi < n then 1099511627776 else hi

def MOk (n : Int) : Prop := 0 ≤ n ∧ n ≤ 1048576
def SOk (lo hi : Int) : Prop := 0 ≤ lo ∧ lo ≤ hi ∧ hi ≤ 1048576

/-- What a set is made of. -/
structure Lot where
  kind : Bool
  a : Int
  b : Int
  c : Int
def Lot.ok (x : Lot) : Prop := if x.kind then TOk x.a x.b x.c else SOk x.a x.b
/-- The first run that ends at n or behind it. -/
def Lot.lo (x : Lot) (n : Int) : Int := if x.kind then fromLo x.a x.b x.c n else sFrom x.a x.b n
def Lot.hi (x : Lot) (n : Int) : Int := if x.kind then fromLo x.a x.b x.c n + x.c - 1 else sFromHi x.b n
/-- An integer is in it. -/
def Lot.has (x : Lot) (n : Int) : Prop := if x.kind then inT x.a x.b x.c n else (x.a ≤ n ∧ n ≤ x.b)

theorem fromLo_stable {p f l P n : Int} (h : TOk p f l) (h1 : P ≤ n) (h2 : n ≤ fromLo p f l P + l - 1) : fromLo p f l n = fromLo p f l P := by
  obtain ⟨a1, a2, a3, a4, a5, a6⟩ := h
  have e1 : 0 ≤ (P - f) % p := Int.emod_nonneg _ (by omega)
  have e2 : (P - f) % p < p := Int.emod_lt_of_pos _ (by omega)
  have hd := Int.emod_add_mul_ediv (P - f) p
  have key : ∀ k, 0 ≤ (n - f) - p * k → (n - f) - p * k < p → (n - f) % p = (n - f) - p * k := by
    intro k h0 h1
    have : (n - f) % p = ((n - f) - p * k) % p := emod_of_dvd ⟨k, by omega⟩
    rw [this, Int.emod_eq_of_lt h0 h1]
  unfold fromLo at h2 ⊢
  generalize hq : (P - f) / p = q at *
  generalize hr : (P - f) % p = r at *
  have hp1 : p * (q + 1) = p * q + p := by rw [Int.mul_add]; omega
  by_cases c : l ≤ r
  · rw [if_pos c] at h2 ⊢
    by_cases hn : n < P - r + p
    · rw [key q (by omega) (by omega), if_pos (by omega)]; omega
    · rw [key (q + 1) (by omega) (by omega), if_neg (by omega)]; omega
  · rw [if_neg c] at h2 ⊢
    rw [key q (by omega) (by omega), if_neg (by omega)]; omega

theorem Lot.stable {x : Lot} (h : x.ok) {P n : Int} (h1 : P ≤ n) (h2 : n ≤ x.hi P) (_hn : n ≤ 1099511627776) : x.lo n = x.lo P ∧ x.hi n = x.hi P := by
  obtain ⟨k, a, b, c⟩ := x
  cases k
  · simp only [Lot.lo, Lot.hi, sFrom, sFromHi, Bool.false_eq_true, if_false] at *
    by_cases hc : b < P
    · rw [if_pos hc, if_pos (show b < n by omega), if_pos hc, if_pos (show b < n by omega)]; exact ⟨rfl, rfl⟩
    · rw [if_neg hc] at h2
      rw [if_neg hc, if_neg (show ¬ b < n by omega), if_neg hc, if_neg (show ¬ b < n by omega)]; exact ⟨rfl, rfl⟩
  · simp only [Lot.lo, Lot.hi, if_true, Lot.ok] at *
    have e := fromLo_stable h h1 (by omega)
    rw [e]; exact ⟨rfl, rfl⟩

/-- The kept run serves from P on: it lies behind, or it is the one from P on. -/
def Lot.kept (x : Lot) (lo hi P : Int) : Prop := hi < P ∨ (lo = x.lo P ∧ hi = x.hi P)
theorem Lot.kept_ask {x : Lot} (h : x.ok) {lo hi P n : Int} (hk : x.kept lo hi P) (h1 : P ≤ n) (hn : n ≤ 1099511627776) (hh : n ≤ hi) : lo = x.lo n ∧ hi = x.hi n := by
  rcases hk with hk | ⟨rfl, rfl⟩
  · omega
  · obtain ⟨e1, e2⟩ := Lot.stable h h1 hh hn
    exact ⟨e1.symm, e2.symm⟩
theorem Lot.kept_new (x : Lot) (n : Int) : x.kept (x.lo n) (x.hi n) n := .inr ⟨rfl, rfl⟩
theorem Lot.kept_later {x : Lot} (h : x.ok) {lo hi P n : Int} (hk : x.kept lo hi P) (h1 : P ≤ n) (hn : n ≤ 1099511627776) : x.kept lo hi n := by
  by_cases c : hi < n
  · exact .inl c
  · exact .inr (Lot.kept_ask h hk h1 hn (by omega))

/-- What is known of the run from n on. -/
theorem Lot.spec {x : Lot} (h : x.ok) (n : Int) (hn : n ≤ 1048577) : n ≤ x.hi n ∧ (∀ m, n ≤ m → m < x.lo n → m ≤ 1048576 → ¬ x.has m) ∧ (∀ m, x.lo n ≤ m → m ≤ x.hi n → m ≤ 1048576 → x.has m) := by
  obtain ⟨k, a, b, c⟩ := x
  cases k
  · simp only [Lot.lo, Lot.hi, sFrom, sFromHi, Lot.has, Lot.ok, SOk, Bool.false_eq_true, if_false] at *
    by_cases hc : b < n
    · rw [if_pos hc, if_pos hc]
      exact ⟨by omega, fun m _ _ _ => by omega, fun m _ _ _ => by omega⟩
    · rw [if_neg hc, if_neg hc]
      exact ⟨by omega, fun m _ _ _ => by omega, fun m _ _ _ => by omega⟩
  · simp only [Lot.lo, Lot.hi, Lot.has, Lot.ok, if_true] at *
    obtain ⟨s1, s2, s3, s4⟩ := fromLo_spec (n := n) h
    exact ⟨by omega, fun m h1 h2 _ => s3 m h1 h2, fun m h1 h2 _ => s4 m h1 (by omega)⟩
end Go.Proofs.YtlhgpeelenelbaaDoor
