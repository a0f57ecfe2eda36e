/- Plain mathematics of two turns: when they meet (no program is imported). -/
namespace Go.Proofs.YtlhgpeelenelbaaDoor

/-- A turn is valid. -/
def TOk (p f l : Int) : Prop := 1 ≤ p ∧ p ≤ 40320 ∧ 0 ≤ f ∧ f < p ∧ 1 ≤ l ∧ l ≤ p
/-- An integer is in a turn. -/
def inT (p f l n : Int) : Prop := (n - f) % p < l
def kaB (la d lb m : Int) : Bool := decide (la ≤ d ∧ d + lb ≤ m)
def dvB (m pa pb : Int) : Bool := decide (1 ≤ m ∧ pa % m = 0 ∧ pb % m = 0)
/-- How many of an occurrence's minutes have the remainder r by m. -/
def timesF (f l m r : Int) : Int := l / m + if (r - f) % m < l % m then 1 else 0
/-- Where the first run of a turn begins that ends at n or behind it. -/
def fromLo (p f l n : Int) : Int := if l ≤ (n - f) % p then n - (n - f) % p + p else n - (n - f) % p

theorem gcd_step (x y : Int) (hx : 0 ≤ x) (hy : 0 < y) : Int.gcd y (x % y) = Int.gcd x y := by
  rw [Int.gcd_comm y]
  obtain ⟨a, rfl⟩ := Int.eq_ofNat_of_zero_le hx
  obtain ⟨b, rfl⟩ := Int.eq_ofNat_of_zero_le (Int.le_of_lt hy)
  have : ((a : Int) % (b : Int)) = ((a % b : Nat) : Int) := by simp
  rw [this]
  simp only [Int.gcd, Int.natAbs_natCast]
  rw [Nat.gcd_comm a b, Nat.gcd_rec b a]

theorem gcd_pos {a b : Int} (ha : 1 ≤ a) : 1 ≤ (Int.gcd a b : Int) := by
  have : 0 < Int.gcd a b := Int.gcd_pos_of_ne_zero_left _ (by omega)
  omega
theorem gcd_le {a b : Int} (ha : 1 ≤ a) : (Int.gcd a b : Int) ≤ a := by
  have h := Int.gcd_dvd_left (a := a) (b := b)
  exact Int.le_of_dvd (by omega) h

/-- Bezout. -/
theorem bezout (n : Nat) : ∀ a b : Int, 0 ≤ a → 0 ≤ b → b.toNat ≤ n → ∃ x y : Int, (Int.gcd a b : Int) = a * x + b * y := by
  induction n with
  | zero =>
    intro a b ha hb hn
    obtain rfl : b = 0 := by omega
    exact ⟨1, 0, by simp; omega⟩
  | succ n ih =>
    intro a b ha hb hn
    by_cases h0 : b = 0
    · subst h0; exact ⟨1, 0, by simp; omega⟩
    · have h1 : 0 ≤ a % b := Int.emod_nonneg _ h0
      have h2 : a % b < b := Int.emod_lt_of_pos a (by omega)
      obtain ⟨x, y, h⟩ := ih b (a % b) hb h1 (by omega)
      rw [gcd_step a b ha (by omega)] at h
      refine ⟨y, x - a / b * y, ?_⟩
      have hd := Int.emod_add_mul_ediv a b
      rw [h]
      have e : a % b = a - b * (a / b) := by omega
      rw [e, Int.sub_mul, Int.mul_sub]
      have e1 : b * (a / b) * y = b * (a / b * y) := by rw [Int.mul_assoc]
      omega

/-- Remainders by two numbers that agree by their greatest common divisor belong to one integer. -/
theorem crt (pa pb r s : Int) (ha : 1 ≤ pa) (hb : 1 ≤ pb) (h : (Int.gcd pa pb : Int) ∣ (s - r)) : ∃ n : Int, 0 ≤ n ∧ pa ∣ n - r ∧ pb ∣ n - s := by
  obtain ⟨k, hk⟩ := h
  obtain ⟨x, y, hb'⟩ := bezout pb.toNat pa pb (by omega) (by omega) (Nat.le_refl _)
  -- n0 = r + pa * x * k = s - pb * y * k
  have e1 : s - r = pa * (x * k) + pb * (y * k) := by rw [hk, hb', Int.add_mul, Int.mul_assoc, Int.mul_assoc]
  have hpp : 0 < pa * pb := Int.mul_pos (by omega) (by omega)
  refine ⟨(r + pa * (x * k)) % (pa * pb), Int.emod_nonneg _ (by omega), ?_, ?_⟩
  · have hd := Int.emod_add_mul_ediv (r + pa * (x * k)) (pa * pb)
    refine ⟨x * k - pb * ((r + pa * (x * k)) / (pa * pb)), ?_⟩
    rw [Int.mul_sub, ← Int.mul_assoc pa pb]
    omega
  · have hd := Int.emod_add_mul_ediv (r + pa * (x * k)) (pa * pb)
    refine ⟨-(y * k) - pa * ((r + pa * (x * k)) / (pa * pb)), ?_⟩
    have e2 : pb * (pa * ((r + pa * (x * k)) / (pa * pb))) = pa * pb * ((r + pa * (x * k)) / (pa * pb)) := by
      rw [← Int.mul_assoc, Int.mul_comm pb pa]
    rw [Int.mul_sub, e2, Int.mul_neg]
    omega

theorem emod_of_dvd {p n r : Int} (h : p ∣ n - r) : n % p = r % p :=
  Int.emod_eq_emod_iff_emod_sub_eq_zero.2 (Int.emod_eq_zero_of_dvd h)
theorem dvd_of_emod {p n r : Int} (h : n % p = r % p) : p ∣ n - r :=
  Int.dvd_of_emod_eq_zero (Int.emod_eq_emod_iff_emod_sub_eq_zero.1 h)

theorem res_of {p f l n m : Int} (hp : 1 ≤ p) (h : inT p f l n) (hm : m ∣ p) : ∃ i, 0 ≤ i ∧ i < l ∧ m ∣ n - (f + i) := by
  refine ⟨(n - f) % p, Int.emod_nonneg _ (by omega), h, ?_⟩
  have hd := Int.emod_add_mul_ediv (n - f) p
  have : n - (f + (n - f) % p) = p * ((n - f) / p) := by omega
  rw [this]
  exact Int.dvd_trans hm ⟨_, rfl⟩
theorem inT_of {p f l i : Int} (h0 : 0 ≤ i) (h1 : i < l) (h2 : l ≤ p) : inT p f l (f + i) := by
  unfold inT
  rw [show f + i - f = i by omega, Int.emod_eq_of_lt h0 (by omega)]; exact h1
theorem inT_congr {p f l n r : Int} (h : p ∣ n - r) (hr : inT p f l r) : inT p f l n := by
  unfold inT at *
  rw [emod_of_dvd (n := n - f) (r := r - f) (by rw [show n - f - (r - f) = n - r by omega]; exact h)]; exact hr

/-- What kaB says true keeps two turns apart. -/
theorem ka_true {pa fa la pb fb lb m n n' : Int} (hm : 1 ≤ m) (hpa : 1 ≤ pa) (hpb : 1 ≤ pb) (da : m ∣ pa) (db : m ∣ pb)
    (h : kaB la ((fb - fa) % m) lb m = true) (ha : inT pa fa la n) (hb : inT pb fb lb n') : ¬ m ∣ n - n' := by
  intro hd
  obtain ⟨i, i0, i1, hi⟩ := res_of hpa ha da
  obtain ⟨j, j0, j1, hj⟩ := res_of hpb hb db
  have e : m ∣ (i - j) - (fb - fa) := by
    have h1 := Int.dvd_sub (Int.dvd_sub hd hi) (Int.dvd_neg.2 hj)
    have : n - n' - (n - (fa + i)) - -(n' - (fb + j)) = (i - j) - (fb - fa) := by omega
    rwa [this] at h1
  have e' := emod_of_dvd e
  have h' : la ≤ (fb - fa) % m ∧ (fb - fa) % m + lb ≤ m := by simpa [kaB] using h
  rw [← e'] at h'
  have d1 := Int.emod_lt_of_pos (i - j) (show 0 < m by omega)
  by_cases hs : 0 ≤ i - j
  · by_cases hlt : i - j < m
    · rw [Int.emod_eq_of_lt hs hlt] at h'; omega
    · omega
  · have : (i - j) % m = i - j + m := by
      rw [← Int.add_emod_right]
      exact Int.emod_eq_of_lt (by omega) (by omega)
    rw [this] at h'; omega

/-- What kaB says false lets two minutes of one remainder. -/
theorem ka_false {fa la fb lb m : Int} (hm : 1 ≤ m) (hla : 1 ≤ la) (hlb : 1 ≤ lb)
    (h : kaB la ((fb - fa) % m) lb m = false) : ∃ i j, 0 ≤ i ∧ i < la ∧ 0 ≤ j ∧ j < lb ∧ m ∣ (fb + j) - (fa + i) := by
  have h' : ¬ (la ≤ (fb - fa) % m ∧ (fb - fa) % m + lb ≤ m) := by simpa [kaB] using h
  have d0 := Int.emod_nonneg (fb - fa) (show m ≠ 0 by omega)
  have d1 := Int.emod_lt_of_pos (fb - fa) (show 0 < m by omega)
  have hd := Int.emod_add_mul_ediv (fb - fa) m
  by_cases c : (fb - fa) % m < la
  · exact ⟨(fb - fa) % m, 0, d0, c, by omega, by omega, ⟨(fb - fa) / m, by omega⟩⟩
  · refine ⟨0, m - (fb - fa) % m, by omega, by omega, by omega, by omega, ⟨(fb - fa) / m + 1, ?_⟩⟩
    rw [Int.mul_add]; omega

/-- Two turns that no remainder by the greatest common divisor keeps apart meet. -/
theorem meets {pa fa la pb fb lb : Int} (ha : TOk pa fa la) (hb : TOk pb fb lb)
    (h : kaB la ((fb - fa) % (Int.gcd pa pb : Int)) lb (Int.gcd pa pb) = false) : ∃ n, 0 ≤ n ∧ inT pa fa la n ∧ inT pb fb lb n := by
  obtain ⟨a1, a2, a3, a4, a5, a6⟩ := ha
  obtain ⟨b1, b2, b3, b4, b5, b6⟩ := hb
  obtain ⟨i, j, i0, i1, j0, j1, hd⟩ := ka_false (gcd_pos a1) a5 b5 h
  obtain ⟨n, n0, hn, hn'⟩ := crt pa pb (fa + i) (fb + j) a1 b1 hd
  exact ⟨n, n0, inT_congr hn (inT_of i0 i1 a6), inT_congr hn' (inT_of j0 j1 b6)⟩

theorem apart_none {pa fa la pb fb lb m : Int} (ha : TOk pa fa la) (hb : TOk pb fb lb) (hm : 1 ≤ m) (da : m ∣ pa) (db : m ∣ pb)
    (h : kaB la ((fb - fa) % m) lb m = true) (n : Int) : ¬ (inT pa fa la n ∧ inT pb fb lb n) := by
  rintro ⟨h1, h2⟩
  exact ka_true hm ha.1 hb.1 da db h h1 h2 ⟨0, by simp⟩

/-- What is known of the first run that ends at n or behind it. -/
theorem fromLo_spec {p f l n : Int} (h : TOk p f l) : n < fromLo p f l n + l ∧ fromLo p f l n ≤ n + p ∧ (∀ m, n ≤ m → m < fromLo p f l n → ¬ inT p f l m) ∧ (∀ m, fromLo p f l n ≤ m → m < fromLo p f l n + l → inT p f l m) := by
  obtain ⟨a1, a2, a3, a4, a5, a6⟩ := h
  have e1 : 0 ≤ (n - f) % p := Int.emod_nonneg _ (by omega)
  have e2 : (n - f) % p < p := Int.emod_lt_of_pos _ (by omega)
  have hd := Int.emod_add_mul_ediv (n - f) p
  have key : ∀ m, ∀ k, (m - f) = p * k + ((m - f) - p * k) → 0 ≤ (m - f) - p * k → (m - f) - p * k < p → (m - f) % p = (m - f) - p * k := by
    intro m k _ h0 h1
    have : (m - f) % p = ((m - f) - p * k) % p := by
      apply emod_of_dvd
      exact ⟨k, by omega⟩
    rw [this, Int.emod_eq_of_lt h0 h1]
  unfold fromLo
  generalize hq : (n - f) / p = q at *
  generalize hr : (n - f) % p = r at *
  have hp1 : p * (q + 1) = p * q + p := by rw [Int.mul_add]; omega
  split
  · rename_i c
    refine ⟨by omega, by omega, ?_, ?_⟩
    · intro m h1 h2 h3
      unfold inT at h3
      rw [key m q (by omega) (by omega) (by omega)] at h3
      omega
    · intro m h1 h2
      unfold inT
      rw [key m (q + 1) (by omega) (by omega) (by omega)]
      omega
  · rename_i c
    refine ⟨by omega, by omega, by intro m _ _; omega, ?_⟩
    intro m h1 h2
    unfold inT
    rw [key m q (by omega) (by omega) (by omega)]
    omega

/-- A round of the search for the first common minute: what the greatest of three numbers is, and what it does. -/
theorem first_step {pa fa la pb fb lb n N a0 b0 M : Int} (hn : 0 ≤ n) (hnN : n ≤ N) (hNa : inT pa fa la N) (hNb : inT pb fb lb N)
    (hl : ∀ m, 0 ≤ m → m < n → ¬ (inT pa fa la m ∧ inT pb fb lb m)) (hNl : ∀ m, 0 ≤ m → m < N → ¬ (inT pa fa la m ∧ inT pb fb lb m))
    (x3 : ∀ m, n ≤ m → m < a0 → ¬ inT pa fa la m) (x4 : ∀ m, a0 ≤ m → m < a0 + la → inT pa fa la m)
    (y3 : ∀ m, n ≤ m → m < b0 → ¬ inT pb fb lb m) (y4 : ∀ m, b0 ≤ m → m < b0 + lb → inT pb fb lb m)
    (x1 : n < a0 + la) (y1 : n < b0 + lb)
    (h1 : n ≤ M) (h2 : a0 ≤ M) (h3 : b0 ≤ M) (h4 : M = n ∨ M = a0 ∨ M = b0) :
    0 ≤ M ∧ M ≤ N ∧ (∀ m, 0 ≤ m → m < M → ¬ (inT pa fa la m ∧ inT pb fb lb m)) ∧ ((M < a0 + la ∧ M < b0 + lb) → M = N) ∧ (¬ (M < a0 + la ∧ M < b0 + lb) → n < M) := by
  have hMN : M ≤ N := by
    rcases h4 with rfl | rfl | rfl
    · exact hnN
    · exact Int.not_lt.1 fun h => x3 N hnN h hNa
    · exact Int.not_lt.1 fun h => y3 N hnN h hNb
  refine ⟨by omega, hMN, ?_, ?_, ?_⟩
  · intro m m0 m1 hm
    by_cases hmn : m < n
    · exact hl m m0 hmn hm
    · rcases h4 with rfl | rfl | rfl
      · omega
      · exact x3 m (by omega) m1 hm.1
      · exact y3 m (by omega) m1 hm.2
  · rintro ⟨k1, k2⟩
    have := hNl M (by omega)
    by_cases hlt : M < N
    · exact absurd ⟨x4 M h2 k1, y4 M h3 k2⟩ (this hlt)
    · omega
  · intro k
    by_cases hMn : M = n
    · subst hMn; exact absurd ⟨x1, y1⟩ k
    · omega

/-- Of the remainders below k, how many pairs of minutes of both turns have the same. -/
def oftenF (fa la fb lb g : Int) : Nat → Int
  | 0 => 0
  | k + 1 => oftenF fa la fb lb g k + timesF fa la g k * timesF fb lb g k

theorem timesF_bd {f l g r : Int} (hg : 1 ≤ g) (h1 : 1 ≤ l) (h2 : l ≤ 40320) : 0 ≤ timesF f l g r ∧ timesF f l g r ≤ 40321 := by
  have h3 : 0 ≤ l / g := Int.ediv_nonneg (by omega) (by omega)
  have h4 : l / g ≤ l := Int.ediv_le_self _ (by omega)
  unfold timesF
  split <;> omega
theorem times_mul_bd {fa la fb lb g r : Int} (hg : 1 ≤ g) (h1 : 1 ≤ la) (h2 : la ≤ 40320) (h3 : 1 ≤ lb) (h4 : lb ≤ 40320) :
    0 ≤ timesF fa la g r * timesF fb lb g r ∧ timesF fa la g r * timesF fb lb g r ≤ 40321 * 40321 := by
  have ⟨a, b⟩ := timesF_bd (f := fa) (r := r) hg h1 h2
  have ⟨c, d⟩ := timesF_bd (f := fb) (r := r) hg h3 h4
  exact ⟨Int.mul_nonneg a c, Int.mul_le_mul b d c (by omega)⟩
theorem oftenF_bd {fa la fb lb g : Int} (hg : 1 ≤ g) (h1 : 1 ≤ la) (h2 : la ≤ 40320) (h3 : 1 ≤ lb) (h4 : lb ≤ 40320) (k : Nat) :
    0 ≤ oftenF fa la fb lb g k ∧ oftenF fa la fb lb g k ≤ k * (40321 * 40321) := by
  induction k with
  | zero => exact ⟨by simp [oftenF], by simp [oftenF]⟩
  | succ k ih =>
    have ⟨a, b⟩ := times_mul_bd (fa := fa) (fb := fb) (r := (k : Int)) hg h1 h2 h3 h4
    unfold oftenF
    constructor <;> omega

/-- A modulus keeps two turns apart, and divides both periods. -/
def apB (pa fa la pb fb lb m : Int) : Bool := dvB m pa pb && kaB la ((fb - fa) % m) lb m

theorem emod_le_self {i m : Int} (h : 0 ≤ i) (hm : 1 ≤ m) : i % m ≤ i := by
  by_cases c : i < m
  · rw [Int.emod_eq_of_lt h c]; omega
  · have := Int.emod_lt_of_pos i (show 0 < m by omega); omega

/-- kaB says whether some remainder is touched by both. -/
theorem ka_of_touch {fa la fb lb m r : Int} (hm : 1 ≤ m) (ha : (r - fa) % m < la) (hb : (r - fb) % m < lb) : kaB la ((fb - fa) % m) lb m = false := by
  by_cases h : kaB la ((fb - fa) % m) lb m = true
  · exact absurd ⟨0, by simp⟩ (ka_true (pa := m) (pb := m) hm hm hm (Int.dvd_refl m) (Int.dvd_refl m) h (n := r) (n' := r) ha hb)
  · simpa using h
theorem ka_of_none {fa la fb lb m : Int} (hm : 1 ≤ m) (hla : 1 ≤ la) (hlb : 1 ≤ lb) (h : ∀ r, 0 ≤ r → r < m → ¬ ((r - fa) % m < la ∧ (r - fb) % m < lb)) : kaB la ((fb - fa) % m) lb m = true := by
  by_cases k : kaB la ((fb - fa) % m) lb m = true
  · exact k
  · have k' : kaB la ((fb - fa) % m) lb m = false := by simpa using k
    obtain ⟨i, j, i0, i1, j0, j1, hd⟩ := ka_false hm hla hlb k'
    exfalso
    have hr0 := Int.emod_nonneg (fa + i) (show m ≠ 0 by omega)
    have hr1 := Int.emod_lt_of_pos (fa + i) (show 0 < m by omega)
    have hq := Int.emod_add_mul_ediv (fa + i) m
    refine h ((fa + i) % m) hr0 hr1 ⟨?_, ?_⟩
    · have e : ((fa + i) % m - fa) % m = i % m := emod_of_dvd ⟨-((fa + i) / m), by rw [Int.mul_neg]; omega⟩
      rw [e]; have := emod_le_self i0 hm; omega
    · have e : ((fa + i) % m - fb) % m = j % m := by
        apply emod_of_dvd
        obtain ⟨q, hq'⟩ := hd
        exact ⟨-((fa + i) / m) - q, by rw [Int.mul_sub, Int.mul_neg]; omega⟩
      rw [e]; have := emod_le_self j0 hm; omega

/-- A number from 1 on divides both periods exactly if it divides their greatest common divisor. -/
theorem dvB_gcd {m pa pb : Int} (hm : 1 ≤ m) : dvB m pa pb = decide ((Int.gcd pa pb : Int) % m = 0) := by
  have e : (1 ≤ m ∧ pa % m = 0 ∧ pb % m = 0) ↔ ((Int.gcd pa pb : Int) % m = 0) := by
    constructor
    · rintro ⟨_, h1, h2⟩
      exact Int.emod_eq_zero_of_dvd (Int.dvd_coe_gcd (Int.dvd_of_emod_eq_zero h1) (Int.dvd_of_emod_eq_zero h2))
    · intro h
      have hd := Int.dvd_of_emod_eq_zero h
      exact ⟨hm, Int.emod_eq_zero_of_dvd (Int.dvd_trans hd (Int.gcd_dvd_left ..)), Int.emod_eq_zero_of_dvd (Int.dvd_trans hd (Int.gcd_dvd_right ..))⟩
  unfold dvB
  rw [decide_eq_decide.2 e]
end Go.Proofs.YtlhgpeelenelbaaDoor
