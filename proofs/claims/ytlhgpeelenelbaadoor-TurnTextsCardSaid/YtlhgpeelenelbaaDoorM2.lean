/- Plain mathematics: the first common minute, and how often two turns meet. -/
import Derived.Test.YtlhgpeelenelbaaDoorM1
namespace Go.Proofs.YtlhgpeelenelbaaDoor

def both (pa fa la pb fb lb n : Int) : Prop := inT pa fa la n ∧ inT pb fb lb n
def lcmF (pa pb : Int) : Int := pa / (Int.gcd pa pb : Int) * pb

theorem lcmF_dvd_left (pa pb : Int) : pa ∣ lcmF pa pb := by
  unfold lcmF
  obtain ⟨x, hx⟩ := Int.gcd_dvd_left (a := pa) (b := pb)
  obtain ⟨y, hy⟩ := Int.gcd_dvd_right (a := pa) (b := pb)
  by_cases h0 : (Int.gcd pa pb : Int) = 0
  · rw [h0, Int.ediv_zero, Int.zero_mul]; exact Int.dvd_zero _
  · have e : pa / (Int.gcd pa pb : Int) = x := by
      generalize (Int.gcd pa pb : Int) = g at *
      rw [hx, Int.mul_ediv_cancel_left _ h0]
    rw [e]
    refine ⟨y, ?_⟩
    generalize (Int.gcd pa pb : Int) = g at *
    rw [hx, hy, Int.mul_comm g x, Int.mul_assoc]
theorem lcmF_dvd_right (pa pb : Int) : pb ∣ lcmF pa pb := ⟨_, Int.mul_comm _ _⟩
theorem lcmF_pos {pa pb : Int} (ha : 1 ≤ pa) (hb : 1 ≤ pb) : 1 ≤ lcmF pa pb := by
  unfold lcmF
  have g1 := gcd_pos (b := pb) ha
  have g2 := gcd_le (b := pb) ha
  have : 1 ≤ pa / (Int.gcd pa pb : Int) := Int.le_ediv_of_mul_le (by omega) (by omega)
  have := Int.mul_le_mul this hb (by omega) (by omega)
  omega
theorem lcmF_le {pa pb : Int} (ha : 1 ≤ pa) (hb : 1 ≤ pb) (ha' : pa ≤ 40320) (hb' : pb ≤ 40320) : lcmF pa pb ≤ 40320 * 40320 := by
  unfold lcmF
  have g1 := gcd_pos (b := pb) ha
  have h : pa / (Int.gcd pa pb : Int) ≤ pa := Int.ediv_le_self _ (by omega)
  have h0 : 0 ≤ pa / (Int.gcd pa pb : Int) := Int.ediv_nonneg (by omega) (by omega)
  exact Int.mul_le_mul (by omega) (by omega) (by omega) (by omega)

theorem both_congr {pa fa la pb fb lb n r l : Int} (hl : pa ∣ l) (hl' : pb ∣ l) (h : l ∣ n - r) (hr : both pa fa la pb fb lb r) : both pa fa la pb fb lb n :=
  ⟨inT_congr (Int.dvd_trans hl h) hr.1, inT_congr (Int.dvd_trans hl' h) hr.2⟩
theorem both_mod {pa fa la pb fb lb n : Int} (h : both pa fa la pb fb lb n) : both pa fa la pb fb lb (n % lcmF pa pb) := by
  refine both_congr (lcmF_dvd_left pa pb) (lcmF_dvd_right pa pb) ?_ h
  have := Int.emod_add_mul_ediv n (lcmF pa pb)
  exact ⟨-(n / lcmF pa pb), by rw [Int.mul_neg]; omega⟩

theorem least_nat (P : Nat → Prop) (B : Nat) (h : P B) : ∃ N, N ≤ B ∧ P N ∧ ∀ m, m < N → ¬ P m := by
  induction B using Nat.strongRecOn with
  | _ B ih =>
    by_cases c : ∃ m, m < B ∧ P m
    · obtain ⟨m, hm, hp⟩ := c
      obtain ⟨N, h1, h2, h3⟩ := ih m hm hp
      exact ⟨N, by omega, h2, h3⟩
    · exact ⟨B, Nat.le_refl _, h, fun m hm hp => c ⟨m, hm, hp⟩⟩
theorem least_int (P : Int → Prop) (B : Int) (h0 : 0 ≤ B) (h : P B) : ∃ N, 0 ≤ N ∧ N ≤ B ∧ P N ∧ ∀ m, 0 ≤ m → m < N → ¬ P m := by
  obtain ⟨N, h1, h2, h3⟩ := least_nat (fun n => P n) B.toNat (by show P (B.toNat : Int); rw [Int.toNat_of_nonneg h0]; exact h)
  refine ⟨N, by omega, by omega, h2, ?_⟩
  intro m m0 m1 hp
  exact h3 m.toNat (by omega) (by show P (m.toNat : Int); rw [Int.toNat_of_nonneg m0]; exact hp)

/-- The answer of First. -/
def FirstIs (pa fa la pb fb lb N c : Int) : Prop :=
  (c = 0 ∧ 0 ≤ N ∧ N ≤ 4000000000 ∧ both pa fa la pb fb lb N ∧ ∀ m, 0 ≤ m → m < N → ¬ both pa fa la pb fb lb m) ∨
  (c = 5 ∧ N = 0 ∧ ∀ m, 0 ≤ m → ¬ both pa fa la pb fb lb m)
theorem FirstIs.unique {pa fa la pb fb lb N c N' c' : Int} (h : FirstIs pa fa la pb fb lb N c) (h' : FirstIs pa fa la pb fb lb N' c') : N = N' ∧ c = c' := by
  rcases h with ⟨rfl, h0, _, hb, hl⟩ | ⟨rfl, rfl, hn⟩ <;> rcases h' with ⟨rfl, h0', _, hb', hl'⟩ | ⟨rfl, rfl, hn'⟩
  · refine ⟨?_, rfl⟩
    have h1 : ¬ N < N' := fun c => hl' N h0 c hb
    have h2 : ¬ N' < N := fun c => hl N' h0' c hb'
    omega
  · exact absurd hb (hn' N h0)
  · exact absurd hb' (hn N' h0')
  · exact ⟨rfl, rfl⟩
/-- The least one lies below the least common multiple. -/
theorem first_least {pa fa la pb fb lb n : Int} (ha : TOk pa fa la) (hb : TOk pb fb lb) (h : both pa fa la pb fb lb n) :
    ∃ N, 0 ≤ N ∧ N < lcmF pa pb ∧ both pa fa la pb fb lb N ∧ ∀ m, 0 ≤ m → m < N → ¬ both pa fa la pb fb lb m := by
  have hl := lcmF_pos ha.1 hb.1
  obtain ⟨N, h1, h2, h3, h4⟩ := least_int (both pa fa la pb fb lb) (n % lcmF pa pb) (Int.emod_nonneg _ (by omega)) (both_mod h)
  have := Int.emod_lt_of_pos n (show 0 < lcmF pa pb by omega)
  exact ⟨N, h1, by omega, h3, h4⟩
theorem none_of_below {pa fa la pb fb lb : Int} (ha : TOk pa fa la) (hb : TOk pb fb lb) (h : ∀ m, 0 ≤ m → m < lcmF pa pb → ¬ both pa fa la pb fb lb m) (n : Int) : ¬ both pa fa la pb fb lb n := by
  intro hn
  have hl := lcmF_pos ha.1 hb.1
  exact h _ (Int.emod_nonneg _ (by omega)) (Int.emod_lt_of_pos n (by omega)) (both_mod hn)

/-- The least integer of a turn from n on. -/
def afterF (p f l n : Int) : Int := if (n - f) % p < l then n else n + p - (n - f) % p
theorem afterF_spec {p f l n : Int} (h : TOk p f l) : n ≤ afterF p f l n ∧ afterF p f l n ≤ n + p ∧ inT p f l (afterF p f l n) ∧ ∀ m, n ≤ m → m < afterF p f l n → ¬ inT p f l m := by
  obtain ⟨s1, s2, s3, s4⟩ := fromLo_spec (n := n) h
  obtain ⟨a1, a2, a3, a4, a5, a6⟩ := h
  have e1 : 0 ≤ (n - f) % p := Int.emod_nonneg _ (by omega)
  have e2 : (n - f) % p < p := Int.emod_lt_of_pos _ (by omega)
  unfold afterF
  unfold fromLo at s1 s2 s3 s4
  split
  · rename_i c
    refine ⟨by omega, by omega, c, fun m _ _ => by omega⟩
  · rename_i c
    rw [if_pos (by omega)] at s1 s2 s3 s4
    have e : n + p - (n - f) % p = n - (n - f) % p + p := by omega
    rw [e]
    exact ⟨by omega, by omega, s4 _ (by omega) (by omega), s3⟩

/-- A round of the specification's search: the run that begins at s. -/
theorem rfirst_step {pa fa la pb fb lb s x n : Int} (ha : TOk pa fa la) (hs : (s - fa) % pa = 0) (hx : x = if 0 < s then s else 0)
    (hl : ∀ m, 0 ≤ m → m < s → ¬ both pa fa la pb fb lb m)
    (y1 : x ≤ n) (y3 : inT pb fb lb n) (y4 : ∀ m, x ≤ m → m < n → ¬ inT pb fb lb m) :
    (n ≤ s + la - 1 → 0 ≤ n ∧ both pa fa la pb fb lb n ∧ ∀ m, 0 ≤ m → m < n → ¬ both pa fa la pb fb lb m) ∧
    (¬ n ≤ s + la - 1 → ∀ m, 0 ≤ m → m < s + pa → ¬ both pa fa la pb fb lb m) := by
  obtain ⟨a1, a2, a3, a4, a5, a6⟩ := ha
  have hx0 : 0 ≤ x ∧ s ≤ x ∧ (x = s ∨ (x = 0 ∧ s ≤ 0)) := by rw [hx]; split <;> omega
  obtain ⟨q, hq⟩ := Int.dvd_of_emod_eq_zero hs
  have run : ∀ m, s ≤ m → m < s + pa → (m - fa) % pa = m - s := by
    intro m h1 h2
    have : (m - fa) % pa = (m - s) % pa := emod_of_dvd ⟨q, by omega⟩
    rw [this, Int.emod_eq_of_lt (by omega) (by omega)]
  constructor
  · intro h
    refine ⟨by omega, ⟨?_, y3⟩, ?_⟩
    · unfold inT; rw [run n (by omega) (by omega)]; omega
    · intro m m0 m1 hm
      by_cases c : m < s
      · exact hl m m0 c hm
      · exact y4 m (by omega) m1 hm.2
  · intro h m m0 m1 hm
    by_cases c : m < s
    · exact hl m m0 c hm
    · have := hm.1
      unfold inT at this
      rw [run m (by omega) m1] at this
      exact y4 m (by omega) (by omega) hm.2
end Go.Proofs.YtlhgpeelenelbaaDoor
