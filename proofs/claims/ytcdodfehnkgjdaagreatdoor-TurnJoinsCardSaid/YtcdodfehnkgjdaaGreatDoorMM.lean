
/- Plain mathematics of two turns: when they meet (no program is imported). -/
namespace Go.Proofs.YtcdodfehnkgjdaaGreatDoor

/-- A turn is valid. -/
def TOk (p f l : Int) : Prop := 1 ≤ p ∧ p ≤ 40320 ∧ 0 ≤ f ∧ f < p ∧ 1 ≤ l ∧ l ≤ p
/-- An integer is in a turn. -/
def inT (p f l n : Int) : Prop := (n - f) % p < l
def kaB (la d lb m : Int) : Bool := decide (la ≤ d ∧ d + lb ≤ m)
def dvB (m pa pb : Int) : Bool := decide (1 ≤ m ∧ pa % m = 0 ∧ pb % m = 0)
/-- How many of an occurrence's minutes have the remainder r by m. -/
def timesF (f l m r : Int) : Int := l / m + if (r - f) % m < l % m then 1 else 0
/-- Where the first run of a turn begins that ends at n or behind it. -/
def fromLo (p f l n : Int) : Int := if l ≤ (n - f) % p then n - (n - f) % p + p else n - (n - f) % p

theorem gcd_step (x y : Int) (hx : 0 ≤ x) (hy : 0 < y) : Int.gcd y (x % y) = Int.gcd x y := by
  rw [Int.gcd_comm y]
  obtain ⟨a, rfl⟩ := Int.eq_ofNat_of_zero_le hx
  obtain ⟨b, rfl⟩ := Int.eq_ofNat_of_zero_le (Int.le_of_lt hy)
  have : ((a : Int) % (b : Int)) = ((a % b : Nat) : Int) := by simp
  rw [this]
  simp only [Int.gcd, Int.natAbs_natCast]
  rw [Nat.gcd_comm a b, Nat.gcd_rec b a]

theorem gcd_pos {a b : Int} (ha : 1 ≤ a) : 1 ≤ (Int.gcd a b : Int) := by
  have : 0 < Int.gcd a b := Int.gcd_pos_of_ne_zero_left _ (by omega)
  omega
theorem gcd_le {a b : Int} (ha : 1 ≤ a) : (Int.gcd a b : Int) ≤ a := by
  have h := Int.gcd_dvd_left (a := a) (b := b)
  exact Int.le_of_dvd (by omega) h

/-- Bezout. -/
theorem bezout (n : Nat) : ∀ a b : Int, 0 ≤ a → 0 ≤ b → b.toNat ≤ n → ∃ x y : Int, (Int.gcd a b : Int) = a * x + b * y := by
  induction n with
  | zero =>
    intro a b ha hb hn
    obtain rfl : b = 0 := by omega
    exact ⟨1, 0, by simp; omega⟩
  | succ n ih =>
    intro a b ha hb hn
    by_cases h0 : b = 0
    · subst h0; exact ⟨1, 0, by simp; omega⟩
    · have h1 : 0 ≤ a % b := Int.emod_nonneg _ h0
      have h2 : a % b < b := Int.emod_lt_of_pos a (by omega)
      obtain ⟨x, y, h⟩ := ih b (a % b) hb h1 (by omega)
      rw [gcd_step a b ha (by omega)] at h
      refine ⟨y, x - a / b * y, ?_⟩
      have hd := Int.emod_add_mul_ediv a b
      rw [h]
      have e : a % b = a - b * (a / b) := by omega
      rw [e, Int.sub_mul, Int.mul_sub]
      have e1 : b * (a / b) * y = b * (a / b * y) := by rw [Int.mul_assoc]
      omega

/-- Remainders by two numbers that agree by their greatest common divisor belong to one integer. -/
theorem crt (pa pb r s : Int) (ha : 1 ≤ pa) (hb : 1 ≤ pb) (h : (Int.gcd pa pb : Int) ∣ (s - r)) : ∃ n : Int, 0 ≤ n ∧ pa ∣ n - r ∧ pb ∣ n - s := by
  obtain ⟨k, hk⟩ := h
  obtain ⟨x, y, hb'⟩ := bezout pb.toNat pa pb (by omega) (by omega) (Nat.le_refl _)
  -- n0 = r + pa * x * k = s - pb * y * k
  have e1 : s - r = pa * (x * k) + pb * (y * k) := by rw [hk, hb', Int.add_mul, Int.mul_assoc, Int.mul_assoc]
  have hpp : 0 < pa * pb := Int.mul_pos (by omega) (by omega)
  refine ⟨(r + pa * (x * k)) % (pa * pb), Int.emod_nonneg _ (by omega), ?_, ?_⟩
  · have hd := Int.emod_add_mul_ediv (r + pa * (x * k)) (pa * pb)
    refine ⟨x * k - pb * ((r + pa * (x * k)) / (pa * pb)), ?_⟩
    rw [Int.mul_sub, ← Int.mul_assoc pa pb]
    omega
  · have hd := Int.emod_add_mul_ediv (r + pa * (x * k)) (pa * pb)
    refine ⟨-(y * k) - pa * ((r + pa * (x * k)) / (pa * pb)), ?_⟩
    have e2 : pb * (pa * ((r + pa * (x * k)) / (pa * pb))) = pa * pb * ((r + pa * (x * k)) / (pa * pb)) := by
      rw [← Int.mul_assoc, Int.mul_comm pb pa]
    rw [Int.mul_sub, e2, Int.mul_neg]
    omega

theorem emod_of_dvd {p n r : Int} (h : p ∣ n - r) : n % p = r % p :=
  Int.emod_eq_emod_iff_emod_sub_eq_zero.2 (Int.emod_eq_zero_of_dvd h)
theorem dvd_of_emod {p n r : Int} (h : n % p = r % p) : p ∣ n - r :=
  Int.dvd_of_emod_eq_zero (Int.emod_eq_emod_iff_emod_sub_eq_zero.1 h)

theorem res_of {p f l n m : Int} (hp : 1 ≤ p) (h : inT p f l n) (hm : m ∣ p) : ∃ i, 0 ≤ i ∧ i < l ∧ m ∣ n - (f + i) := by
  refine ⟨(n - f) % p, Int.emod_nonneg _ (by omega), h, ?_⟩
  have hd := Int.emod_add_mul_ediv (n - f) p
  have : n - (f + (n - f) % p) = p * ((n - f) / p) := by omega
  rw [this]
  exact Int.dvd_trans hm ⟨_, rfl⟩
theorem inT_of {p f l i : Int} (h0 : 0 ≤ i) (h1 : i < l) (h2 : l ≤ p) : inT p f l (f + i) := by
  unfold inT
  rw [show f + i - f = i by omega, Int.emod_eq_of_lt h0 (by omega)]; exact h1
theorem inT_congr {p f l n r : Int} (h : p ∣ n - r) (hr : inT p f l r) : inT p f l n := by
  unfold inT at *
  rw [emod_of_dvd (n := n - f) (r := r - f) (by rw [show n - f - (r - f) = n - r by omega]; exact h)]; exact hr

/-- What kaB says true keeps two turns apart. -/
theorem ka_true {pa fa la pb fb lb m n n' : Int} (hm : 1 ≤ m) (hpa : 1 ≤ pa) (hpb : 1 ≤ pb) (da : m ∣ pa) (db : m ∣ pb)
    (h : kaB la ((fb - fa) % m) lb m = true) (ha : inT pa fa la n) (hb : inT pb fb lb n') : ¬ m ∣ n - n' := by
  intro hd
  obtain ⟨i, i0, i1, hi⟩ := res_of hpa ha da
  obtain ⟨j, j0, j1, hj⟩ := res_of hpb hb db
  have e : m ∣ (i - j) - (fb - fa) := by
    have h1 := Int.dvd_sub (Int.dvd_sub hd hi) (Int.dvd_neg.2 hj)
    have : n - n' - (n - (fa + i)) - -(n' - (fb + j)) = (i - j) - (fb - fa) := by omega
    rwa [this] at h1
  have e' := emod_of_dvd e
  have h' : la ≤ (fb - fa) % m ∧ (fb - fa) % m + lb ≤ m := by simpa [kaB] using h
  rw [← e'] at h'
  have d1 := Int.emod_lt_of_pos (i - j) (show 0 < m by omega)
  by_cases hs : 0 ≤ i - j
  · by_cases hlt : i - j < m
    · rw [Int.emod_eq_of_lt hs hlt] at h'; omega
    · omega
  · have : (i - j) % m = i - j + m := by
      rw [← Int.add_emod_right]
      exact Int.emod_eq_of_lt (by omega) (by omega)
    rw [this] at h'; omega

/-- What kaB says false lets two minutes of one remainder. -/
theorem ka_false {fa la fb lb m : Int} (hm : 1 ≤ m) (hla : 1 ≤ la) (hlb : 1 ≤ lb)
    (h : kaB la ((fb - fa) % m) lb m = false) : ∃ i j, 0 ≤ i ∧ i < la ∧ 0 ≤ j ∧ j < lb ∧ m ∣ (fb + j) - (fa + i) := by
  have h' : ¬ (la ≤ (fb - fa) % m ∧ (fb - fa) % m + lb ≤ m) := by simpa [kaB] using h
  have d0 := Int.emod_nonneg (fb - fa) (show m ≠ 0 by omega)
  have d1 := Int.emod_lt_of_pos (fb - fa) (show 0 < m by omega)
  have hd := Int.emod_add_mul_ediv (fb - fa) m
  by_cases c : (fb - fa) % m < la
  · exact ⟨(fb - fa) % m, 0, d0, c, by omega, by omega, ⟨(fb - fa) / m, by omega⟩⟩
  · refine ⟨0, m - (fb - fa) % m, by omega, by omega, by omega, by omega, ⟨(fb - fa) / m + 1, ?_⟩⟩
    rw [Int.mul_add]; omega

/-- Two turns that no remainder by the greatest common divisor keeps apart meet. -/
theorem meets {pa fa la pb fb lb : Int} (ha : TOk pa fa la) (hb : TOk pb fb lb)
    (h : kaB la ((fb - fa) % (Int.gcd pa pb : Int)) lb (Int.gcd pa pb) = false) : ∃ n, 0 ≤ n ∧ inT pa fa la n ∧ inT pb fb lb n := by
  obtain ⟨a1, a2, a3, a4, a5, a6⟩ := ha
  obtain ⟨b1, b2, b3, b4, b5, b6⟩ := hb
  obtain ⟨i, j, i0, i1, j0, j1, hd⟩ := ka_false (gcd_pos a1) a5 b5 h
  obtain ⟨n, n0, hn, hn'⟩ := crt pa pb (fa + i) (fb + j) a1 b1 hd
  exact ⟨n, n0, inT_congr hn (inT_of i0 i1 a6), inT_congr hn' (inT_of j0 j1 b6)⟩

theorem apart_none {pa fa la pb fb lb m : Int} (ha : TOk pa fa la) (hb : TOk pb fb lb) (hm : 1 ≤ m) (da : m ∣ pa) (db : m ∣ pb)
    (h : kaB la ((fb - fa) % m) lb m = true) (n : Int) : ¬ (inT pa fa la n ∧ inT pb fb lb n) := by
  rintro ⟨h1, h2⟩
  exact ka_true hm ha.1 hb.1 da db h h1 h2 ⟨0, by simp⟩

/-- What is known of the first run that ends at n or behind it. -/
theorem fromLo_spec {p f l n : Int} (h : TOk p f l) : n < fromLo p f l n + l ∧ fromLo p f l n ≤ n + p ∧ (∀ m, n ≤ m → m < fromLo p f l n → ¬ inT p f l m) ∧ (∀ m, fromLo p f l n ≤ m → m < fromLo p f l n + l → inT p f l m) := by
  obtain ⟨a1, a2, a3, a4, a5, a6⟩ := h
  have e1 : 0 ≤ (n - f) % p := Int.emod_nonneg _ (by omega)
  have e2 : (n - f) % p < p := Int.emod_lt_of_pos _ (by omega)
  have hd := Int.emod_add_mul_ediv (n - f) p
  have key : ∀ m, ∀ k, (m - f) = p * k + ((m - f) - p * k) → 0 ≤ (m - f) - p * k → (m - f) - p * k < p → (m - f) % p = (m - f) - p * k := by
    intro m k _ h0 h1
    have : (m - f) % p = ((m - f) - p * k) % p := by
      apply emod_of_dvd
      exact ⟨k, by omega⟩
    rw [this, Int.emod_eq_of_lt h0 h1]
  unfold fromLo
  generalize hq : (n - f) / p = q at *
  generalize hr : (n - f) % p = r at *
  have hp1 : p * (q + 1) = p * q + p := by rw [Int.mul_add]; omega
  split
  · rename_i c
    refine ⟨by omega, by omega, ?_, ?_⟩
    · intro m h1 h2 h3
      unfold inT at h3
      rw [key m q (by omega) (by omega) (by omega)] at h3
      omega
    · intro m h1 h2
      unfold inT
      rw [key m (q + 1) (by omega) (by omega) (by omega)]
      omega
  · rename_i c
    refine ⟨by omega, by omega, by intro m _ _; omega, ?_⟩
    intro m h1 h2
    unfold inT
    rw [key m q (by omega) (by omega) (by omega)]
    omega

/-- A round of the search for the first common minute: what the greatest of three numbers is, and what it does. -/
theorem first_step {pa fa la pb fb lb n N a0 b0 M : Int} (hn : 0 ≤ n) (hnN : n ≤ N) (hNa : inT pa fa la N) (hNb : inT pb fb lb N)
    (hl : ∀ m, 0 ≤ m → m < n → ¬ (inT pa fa la m ∧ inT pb fb lb m)) (hNl : ∀ m, 0 ≤ m → m < N → ¬ (inT pa fa la m ∧ inT pb fb lb m))
    (x3 : ∀ m, n ≤ m → m < a0 → ¬ inT pa fa la m) (x4 : ∀ m, a0 ≤ m → m < a0 + la → inT pa fa la m)
    (y3 : ∀ m, n ≤ m → m < b0 → ¬ inT pb fb lb m) (y4 : ∀ m, b0 ≤ m → m < b0 + lb → inT pb fb lb m)
    (x1 : n < a0 + la) (y1 : n < b0 + lb)
    (h1 : n ≤ M) (h2 : a0 ≤ M) (h3 : b0 ≤ M) (h4 : M = n ∨ M = a0 ∨ M = b0) :
    0 ≤ M ∧ M ≤ N ∧ (∀ m, 0 ≤ m → m < M → ¬ (inT pa fa la m ∧ inT pb fb lb m)) ∧ ((M < a0 + la ∧ M < b0 + lb) → M = N) ∧ (¬ (M < a0 + la ∧ M < b0 + lb) → n < M) := by
  have hMN : M ≤ N := by
    rcases h4 with rfl | rfl | rfl
    · exact hnN
    · exact Int.not_lt.1 fun h => x3 N hnN h hNa
    · exact Int.not_lt.1 fun h => y3 N hnN h hNb
  refine ⟨by omega, hMN, ?_, ?_, ?_⟩
  · intro m m0 m1 hm
    by_cases hmn : m < n
    · exact hl m m0 hmn hm
    · rcases h4 with rfl | rfl | rfl
      · omega
      · exact x3 m (by omega) m1 hm.1
      · exact y3 m (by omega) m1 hm.2
  · rintro ⟨k1, k2⟩
    have := hNl M (by omega)
    by_cases hlt : M < N
    · exact absurd ⟨x4 M h2 k1, y4 M h3 k2⟩ (this hlt)
    · omega
  · intro k
    by_cases hMn : M = n
    · subst hMn; exact absurd ⟨x1, y1⟩ k
    · omega

/-- Of the remainders below k, how many pairs of minutes of both turns have the same. -/
def oftenF (fa la fb lb g : Int) : Nat → Int
  | 0 => 0
  | k + 1 => oftenF fa la fb lb g k + timesF fa la g k * timesF fb lb g k

theorem timesF_bd {f l g r : Int} (hg : 1 ≤ g) (h1 : 1 ≤ l) (h2 : l ≤ 40320) : 0 ≤ timesF f l g r ∧ timesF f l g r ≤ 40321 := by
  have h3 : 0 ≤ l / g := Int.ediv_nonneg (by omega) (by omega)
  have h4 : l / g ≤ l := Int.ediv_le_self _ (by omega)
  unfold timesF
  split <;> omega
theorem times_mul_bd {fa la fb lb g r : Int} (hg : 1 ≤ g) (h1 : 1 ≤ la) (h2 : la ≤ 40320) (h3 : 1 ≤ lb) (h4 : lb ≤ 40320) :
    0 ≤ timesF fa la g r * timesF fb lb g r ∧ timesF fa la g r * timesF fb lb g r ≤ 40321 * 40321 := by
  have ⟨a, b⟩ := timesF_bd (f := fa) (r := r) hg h1 h2
  have ⟨c, d⟩ := timesF_bd (f := fb) (r := r) hg h3 h4
  exact ⟨Int.mul_nonneg a c, Int.mul_le_mul b d c (by omega)⟩
theorem oftenF_bd {fa la fb lb g : Int} (hg : 1 ≤ g) (h1 : 1 ≤ la) (h2 : la ≤ 40320) (h3 : 1 ≤ lb) (h4 : lb ≤ 40320) (k : Nat) :
    0 ≤ oftenF fa la fb lb g k ∧ oftenF fa la fb lb g k ≤ k * (40321 * 40321) := by
  induction k with
  | zero => exact ⟨by simp [oftenF], by simp [oftenF]⟩
  | succ k ih =>
    have ⟨a, b⟩ := times_mul_bd (fa := fa) (fb := fb) (r := (k : Int)) hg h1 h2 h3 h4
    unfold oftenF
    constructor <;> omega

/-- A modulus keeps two turns apart, and divides both periods. -/
def apB (pa fa la pb fb lb m : Int) : Bool := dvB m pa pb && kaB la ((fb - fa) % m) lb m

theorem emod_le_self {i m : Int} (h : 0 ≤ i) (hm : 1 ≤ m) : i % m ≤ i := by
  by_cases c : i < m
  · rw [Int.emod_eq_of_lt h c]; omega
  · have := Int.emod_lt_of_pos i (show 0 < m by omega); omega

/-- kaB says whether some remainder is touched by both. -/
theorem ka_of_touch {fa la fb lb m r : Int} (hm : 1 ≤ m) (ha : (r - fa) % m < la) (hb : (r - fb) % m < lb) : kaB la ((fb - fa) % m) lb m = false := by
  by_cases h : kaB la ((fb - fa) % m) lb m = true
  · exact absurd ⟨0, by simp⟩ (ka_true (pa := m) (pb := m) hm hm hm (Int.dvd_refl m) (Int.dvd_refl m) h (n := r) (n' := r) ha hb)
  · simpa using h
theorem ka_of_none {fa la fb lb m : Int} (hm : 1 ≤ m) (hla : 1 ≤ la) (hlb : 1 ≤ lb) (h : ∀ r, 0 ≤ r → r < m → ¬ ((r - fa) % m < la ∧ (r - fb) % m < lb)) : kaB la ((fb - fa) % m) lb m = true := by
  by_cases k : kaB la ((fb - fa) % m) lb m = true
  · exact k
  · have k' : kaB la ((fb - fa) % m) lb m = false := by simpa using k
    obtain ⟨i, j, i0, i1, j0, j1, hd⟩ := ka_false hm hla hlb k'
    exfalso
    have hr0 := Int.emod_nonneg (fa + i) (show m ≠ 0 by omega)
    have hr1 := Int.emod_lt_of_pos (fa + i) (show 0 < m by omega)
    have hq := Int.emod_add_mul_ediv (fa + i) m
    refine h ((fa + i) % m) hr0 hr1 ⟨?_, ?_⟩
    · have e : ((fa + i) % m - fa) % m = i % m := emod_of_dvd ⟨-((fa + i) / m), by rw [Int.mul_neg]; omega⟩
      rw [e]; have := emod_le_self i0 hm; omega
    · have e : ((fa + i) % m - fb) % m = j % m := by
        apply emod_of_dvd
        obtain ⟨q, hq'⟩ := hd
        exact ⟨-((fa + i) / m) - q, by rw [Int.mul_sub, Int.mul_neg]; omega⟩
      rw [e]; have := emod_le_self j0 hm; omega

/-- A number from 1 on divides both periods exactly if it divides their greatest common divisor. -/
theorem dvB_gcd {m pa pb : Int} (hm : 1 ≤ m) : dvB m pa pb = decide ((Int.gcd pa pb : Int) % m = 0) := by
  have e : (1 ≤ m ∧ pa % m = 0 ∧ pb % m = 0) ↔ ((Int.gcd pa pb : Int) % m = 0) := by
    constructor
    · rintro ⟨_, h1, h2⟩
      exact Int.emod_eq_zero_of_dvd (Int.dvd_coe_gcd (Int.dvd_of_emod_eq_zero h1) (Int.dvd_of_emod_eq_zero h2))
    · intro h
      have hd := Int.dvd_of_emod_eq_zero h
      exact ⟨hm, Int.emod_eq_zero_of_dvd (Int.dvd_trans hd (Int.gcd_dvd_left ..)), Int.emod_eq_zero_of_dvd (Int.dvd_trans hd (Int.gcd_dvd_right ..))⟩
  unfold dvB
  rw [decide_eq_decide.2 e]
end Go.Proofs.YtcdodfehnkgjdaaGreatDoor

/- Plain mathematics: the first common minute, and how often two turns meet. -/
namespace Go.Proofs.YtcdodfehnkgjdaaGreatDoor

def both (pa fa la pb fb lb n : Int) : Prop := inT pa fa la n ∧ inT pb fb lb n
def lcmF (pa pb : Int) : Int := pa / (Int.gcd pa pb : Int) * pb

theorem lcmF_dvd_left (pa pb : Int) : pa ∣ lcmF pa pb := by
  unfold lcmF
  obtain ⟨x, hx⟩ := Int.gcd_dvd_left (a := pa) (b := pb)
  obtain ⟨y, hy⟩ := Int.gcd_dvd_right (a := pa) (b := pb)
  by_cases h0 : (Int.gcd pa pb : Int) = 0
  · rw [h0, Int.ediv_zero, Int.zero_mul]; exact Int.dvd_zero _
  · have e : pa / (Int.gcd pa pb : Int) = x := by
      generalize (Int.gcd pa pb : Int) = g at *
      rw [hx, Int.mul_ediv_cancel_left _ h0]
    rw [e]
    refine ⟨y, ?_⟩
    generalize (Int.gcd pa pb : Int) = g at *
    rw [hx, hy, Int.mul_comm g x, Int.mul_assoc]
theorem lcmF_dvd_right (pa pb : Int) : pb ∣ lcmF pa pb := ⟨_, Int.mul_comm _ _⟩
theorem lcmF_pos {pa pb : Int} (ha : 1 ≤ pa) (hb : 1 ≤ pb) : 1 ≤ lcmF pa pb := by
  unfold lcmF
  have g1 := gcd_pos (b := pb) ha
  have g2 := gcd_le (b := pb) ha
  have : 1 ≤ pa / (Int.gcd pa pb : Int) := Int.le_ediv_of_mul_le (by omega) (by omega)
  have := Int.mul_le_mul this hb (by omega) (by omega)
  omega
theorem lcmF_le {pa pb : Int} (ha : 1 ≤ pa) (hb : 1 ≤ pb) (ha' : pa ≤ 40320) (hb' : pb ≤ 40320) : lcmF pa pb ≤ 40320 * 40320 := by
  unfold lcmF
  have g1 := gcd_pos (b := pb) ha
  have h : pa / (Int.gcd pa pb : Int) ≤ pa := Int.ediv_le_self _ (by omega)
  have h0 : 0 ≤ pa / (Int.gcd pa pb : Int) := Int.ediv_nonneg (by omega) (by omega)
  exact Int.mul_le_mul (by omega) (by omega) (by omega) (by omega)

theorem both_congr {pa fa la pb fb lb n r l : Int} (hl : pa ∣ l) (hl' : pb ∣ l) (h : l ∣ n - r) (hr : both pa fa la pb fb lb r) : both pa fa la pb fb lb n :=
  ⟨inT_congr (Int.dvd_trans hl h) hr.1, inT_congr (Int.dvd_trans hl' h) hr.2⟩
theorem both_mod {pa fa la pb fb lb n : Int} (h : both pa fa la pb fb lb n) : both pa fa la pb fb lb (n % lcmF pa pb) := by
  refine both_congr (lcmF_dvd_left pa pb) (lcmF_dvd_right pa pb) ?_ h
  have := Int.emod_add_mul_ediv n (lcmF pa pb)
  exact ⟨-(n / lcmF pa pb), by rw [Int.mul_neg]; omega⟩

theorem least_nat (P : Nat → Prop) (B : Nat) (h : P B) : ∃ N, N ≤ B ∧ P N ∧ ∀ m, m < N → ¬ P m := by
  induction B using Nat.strongRecOn with
  | _ B ih =>
    by_cases c : ∃ m, m < B ∧ P m
    · obtain ⟨m, hm, hp⟩ := c
      obtain ⟨N, h1, h2, h3⟩ := ih m hm hp
      exact ⟨N, by omega, h2, h3⟩
    · exact ⟨B, Nat.le_refl _, h, fun m hm hp => c ⟨m, hm, hp⟩⟩
theorem least_int (P : Int → Prop) (B : Int) (h0 : 0 ≤ B) (h : P B) : ∃ N, 0 ≤ N ∧ N ≤ B ∧ P N ∧ ∀ m, 0 ≤ m → m < N → ¬ P m := by
  obtain ⟨N, h1, h2, h3⟩ := least_nat (fun n => P n) B.toNat (by show P (B.toNat : Int); rw [Int.toNat_of_nonneg h0]; exact h)
  refine ⟨N, by omega, by omega, h2, ?_⟩
  intro m m0 m1 hp
  exact h3 m.toNat (by omega) (by show P (m.toNat : Int); rw [Int.toNat_of_nonneg m0]; exact hp)

/-- The answer of First. -/
def FirstIs (pa fa la pb fb lb N c : Int) : Prop :=
  (c = 0 ∧ 0 ≤ N ∧ N ≤ 4000000000 ∧ both pa fa la pb fb lb N ∧ ∀ m, 0 ≤ m → m < N → ¬ both pa fa la pb fb lb m) ∨
  (c = 5 ∧ N = 0 ∧ ∀ m, 0 ≤ m → ¬ both pa fa la pb fb lb m)
theorem FirstIs.unique {pa fa la pb fb lb N c N' c' : Int} (h : FirstIs pa fa la pb fb lb N c) (h' : FirstIs pa fa la pb fb lb N' c') : N = N' ∧ c = c' := by
  rcases h with ⟨rfl, h0, _, hb, hl⟩ | ⟨rfl, rfl, hn⟩ <;> rcases h' with ⟨rfl, h0', _, hb', hl'⟩ | ⟨rfl, rfl, hn'⟩
  · refine ⟨?_, rfl⟩
    have h1 : ¬ N < N' := fun c => hl' N h0 c hb
    have h2 : ¬ N' < N := fun c => hl N' h0' c hb'
    omega
  · exact absurd hb (hn' N h0)
  · exact absurd hb' (hn N' h0')
  · exact ⟨rfl, rfl⟩
/-- The least one lies below the least common multiple. -/
theorem first_least {pa fa la pb fb lb n : Int} (ha : TOk pa fa la) (hb : TOk pb fb lb) (h : both pa fa la pb fb lb n) :
    ∃ N, 0 ≤ N ∧ N < lcmF pa pb ∧ both pa fa la pb fb lb N ∧ ∀ m, 0 ≤ m → m < N → ¬ both pa fa la pb fb lb m := by
  have hl := lcmF_pos ha.1 hb.1
  obtain ⟨N, h1, h2, h3, h4⟩ := least_int (both pa fa la pb fb lb) (n % lcmF pa pb) (Int.emod_nonneg _ (by omega)) (both_mod h)
  have := Int.emod_lt_of_pos n (show 0 < lcmF pa pb by omega)
  exact ⟨N, h1, by omega, h3, h4⟩
theorem none_of_below {pa fa la pb fb lb : Int} (ha : TOk pa fa la) (hb : TOk pb fb lb) (h : ∀ m, 0 ≤ m → m < lcmF pa pb → ¬ both pa fa la pb fb lb m) (n : Int) : ¬ both pa fa la pb fb lb n := by
  intro hn
  have hl := lcmF_pos ha.1 hb.1
  exact h _ (Int.emod_nonneg _ (by omega)) (Int.emod_lt_of_pos n (by omega)) (both_mod hn)

/-- The least integer of a turn from n on. -/
def afterF (p f l n : Int) : Int := if (n - f) % p < l then n else n + p - (n - f) % p
theorem afterF_spec {p f l n : Int} (h : TOk p f l) : n ≤ afterF p f l n ∧ afterF p f l n ≤ n + p ∧ inT p f l (afterF p f l n) ∧ ∀ m, n ≤ m → m < afterF p f l n → ¬ inT p f l m := by
  obtain ⟨s1, s2, s3, s4⟩ := fromLo_spec (n := n) h
  obtain ⟨a1, a2, a3, a4, a5, a6⟩ := h
  have e1 : 0 ≤ (n - f) % p := Int.emod_nonneg _ (by omega)
  have e2 : (n - f) % p < p := Int.emod_lt_of_pos _ (by omega)
  unfold afterF
  unfold fromLo at s1 s2 s3 s4
  split
  · rename_i c
    refine ⟨by omega, by omega, c, fun m _ _ => by omega⟩
  · rename_i c
    rw [if_pos (by omega)] at s1 s2 s3 s4
    have e : n + p - (n - f) % p = n - (n - f) % p + p := by omega
    rw [e]
    exact ⟨by omega, by omega, s4 _ (by omega) (by omega), s3⟩

/-- A round of the specification's search: the run that begins at s. -/
theorem rfirst_step {pa fa la pb fb lb s x n : Int} (ha : TOk pa fa la) (hs : (s - fa) % pa = 0) (hx : x = if 0 < s then s else 0)
    (hl : ∀ m, 0 ≤ m → m < s → ¬ both pa fa la pb fb lb m)
    (y1 : x ≤ n) (y3 : inT pb fb lb n) (y4 : ∀ m, x ≤ m → m < n → ¬ inT pb fb lb m) :
    (n ≤ s + la - 1 → 0 ≤ n ∧ both pa fa la pb fb lb n ∧ ∀ m, 0 ≤ m → m < n → ¬ both pa fa la pb fb lb m) ∧
    (¬ n ≤ s + la - 1 → ∀ m, 0 ≤ m → m < s + pa → ¬ both pa fa la pb fb lb m) := by
  obtain ⟨a1, a2, a3, a4, a5, a6⟩ := ha
  have hx0 : 0 ≤ x ∧ s ≤ x ∧ (x = s ∨ (x = 0 ∧ s ≤ 0)) := by rw [hx]; split <;> omega
  obtain ⟨q, hq⟩ := Int.dvd_of_emod_eq_zero hs
  have run : ∀ m, s ≤ m → m < s + pa → (m - fa) % pa = m - s := by
    intro m h1 h2
    have : (m - fa) % pa = (m - s) % pa := emod_of_dvd ⟨q, by omega⟩
    rw [this, Int.emod_eq_of_lt (by omega) (by omega)]
  constructor
  · intro h
    refine ⟨by omega, ⟨?_, y3⟩, ?_⟩
    · unfold inT; rw [run n (by omega) (by omega)]; omega
    · intro m m0 m1 hm
      by_cases c : m < s
      · exact hl m m0 c hm
      · exact y4 m (by omega) m1 hm.2
  · intro h m m0 m1 hm
    by_cases c : m < s
    · exact hl m m0 c hm
    · have := hm.1
      unfold inT at this
      rw [run m (by omega) m1] at this
      exact y4 m (by omega) (by omega) hm.2
end Go.Proofs.YtcdodfehnkgjdaaGreatDoor

/- Plain mathematics: the runs of a turn or a span, and which one is kept. -/
namespace Go.Proofs.YtcdodfehnkgjdaaGreatDoor

/-- Where a span's run from n on begins, and ends. -/
def sFrom (lo hi n : Int) : Int := if hi < n then 1099511627776 else lo
def sFromHi (hi n : Int) : Int := if hi < n then 1099511627776 else hi

def MOk (n : Int) : Prop := 0 ≤ n ∧ n ≤ 1048576
def SOk (lo hi : Int) : Prop := 0 ≤ lo ∧ lo ≤ hi ∧ hi ≤ 1048576

/-- What a set is made of. -/
structure Lot where
  kind : Bool
  a : Int
  b : Int
  c : Int
def Lot.ok (x : Lot) : Prop := if x.kind then TOk x.a x.b x.c else SOk x.a x.b
/-- The first run that ends at n or behind it. -/
def Lot.lo (x : Lot) (n : Int) : Int := if x.kind then fromLo x.a x.b x.c n else sFrom x.a x.b n
def Lot.hi (x : Lot) (n : Int) : Int := if x.kind then fromLo x.a x.b x.c n + x.c - 1 else sFromHi x.b n
/-- An integer is in it. -/
def Lot.has (x : Lot) (n : Int) : Prop := if x.kind then inT x.a x.b x.c n else (x.a ≤ n ∧ n ≤ x.b)

theorem fromLo_stable {p f l P n : Int} (h : TOk p f l) (h1 : P ≤ n) (h2 : n ≤ fromLo p f l P + l - 1) : fromLo p f l n = fromLo p f l P := by
  obtain ⟨a1, a2, a3, a4, a5, a6⟩ := h
  have e1 : 0 ≤ (P - f) % p := Int.emod_nonneg _ (by omega)
  have e2 : (P - f) % p < p := Int.emod_lt_of_pos _ (by omega)
  have hd := Int.emod_add_mul_ediv (P - f) p
  have key : ∀ k, 0 ≤ (n - f) - p * k → (n - f) - p * k < p → (n - f) % p = (n - f) - p * k := by
    intro k h0 h1
    have : (n - f) % p = ((n - f) - p * k) % p := emod_of_dvd ⟨k, by omega⟩
    rw [this, Int.emod_eq_of_lt h0 h1]
  unfold fromLo at h2 ⊢
  generalize hq : (P - f) / p = q at *
  generalize hr : (P - f) % p = r at *
  have hp1 : p * (q + 1) = p * q + p := by rw [Int.mul_add]; omega
  by_cases c : l ≤ r
  · rw [if_pos c] at h2 ⊢
    by_cases hn : n < P - r + p
    · rw [key q (by omega) (by omega), if_pos (by omega)]; omega
    · rw [key (q + 1) (by omega) (by omega), if_neg (by omega)]; omega
  · rw [if_neg c] at h2 ⊢
    rw [key q (by omega) (by omega), if_neg (by omega)]; omega

theorem Lot.stable {x : Lot} (h : x.ok) {P n : Int} (h1 : P ≤ n) (h2 : n ≤ x.hi P) (_hn : n ≤ 1099511627776) : x.lo n = x.lo P ∧ x.hi n = x.hi P := by
  obtain ⟨k, a, b, c⟩ := x
  cases k
  · simp only [Lot.lo, Lot.hi, sFrom, sFromHi, Bool.false_eq_true, if_false] at *
    by_cases hc : b < P
    · rw [if_pos hc, if_pos (show b < n by omega), if_pos hc, if_pos (show b < n by omega)]; exact ⟨rfl, rfl⟩
    · rw [if_neg hc] at h2
      rw [if_neg hc, if_neg (show ¬ b < n by omega), if_neg hc, if_neg (show ¬ b < n by omega)]; exact ⟨rfl, rfl⟩
  · simp only [Lot.lo, Lot.hi, if_true, Lot.ok] at *
    have e := fromLo_stable h h1 (by omega)
    rw [e]; exact ⟨rfl, rfl⟩

/-- The kept run serves from P on: it lies behind, or it is the one from P on. -/
def Lot.kept (x : Lot) (lo hi P : Int) : Prop := hi < P ∨ (lo = x.lo P ∧ hi = x.hi P)
theorem Lot.kept_ask {x : Lot} (h : x.ok) {lo hi P n : Int} (hk : x.kept lo hi P) (h1 : P ≤ n) (hn : n ≤ 1099511627776) (hh : n ≤ hi) : lo = x.lo n ∧ hi = x.hi n := by
  rcases hk with hk | ⟨rfl, rfl⟩
  · omega
  · obtain ⟨e1, e2⟩ := Lot.stable h h1 hh hn
    exact ⟨e1.symm, e2.symm⟩
theorem Lot.kept_new (x : Lot) (n : Int) : x.kept (x.lo n) (x.hi n) n := .inr ⟨rfl, rfl⟩
theorem Lot.kept_later {x : Lot} (h : x.ok) {lo hi P n : Int} (hk : x.kept lo hi P) (h1 : P ≤ n) (hn : n ≤ 1099511627776) : x.kept lo hi n := by
  by_cases c : hi < n
  · exact .inl c
  · exact .inr (Lot.kept_ask h hk h1 hn (by omega))

/-- What is known of the run from n on. -/
theorem Lot.spec {x : Lot} (h : x.ok) (n : Int) (hn : n ≤ 1048577) : n ≤ x.hi n ∧ (∀ m, n ≤ m → m < x.lo n → m ≤ 1048576 → ¬ x.has m) ∧ (∀ m, x.lo n ≤ m → m ≤ x.hi n → m ≤ 1048576 → x.has m) := by
  obtain ⟨k, a, b, c⟩ := x
  cases k
  · simp only [Lot.lo, Lot.hi, sFrom, sFromHi, Lot.has, Lot.ok, SOk, Bool.false_eq_true, if_false] at *
    by_cases hc : b < n
    · rw [if_pos hc, if_pos hc]
      exact ⟨by omega, fun m _ _ _ => by omega, fun m _ _ _ => by omega⟩
    · rw [if_neg hc, if_neg hc]
      exact ⟨by omega, fun m _ _ _ => by omega, fun m _ _ _ => by omega⟩
  · simp only [Lot.lo, Lot.hi, Lot.has, Lot.ok, if_true] at *
    obtain ⟨s1, s2, s3, s4⟩ := fromLo_spec (n := n) h
    exact ⟨by omega, fun m h1 h2 _ => s3 m h1 h2, fun m h1 h2 _ => s4 m h1 (by omega)⟩
end Go.Proofs.YtcdodfehnkgjdaaGreatDoor

/- Plain mathematics: the runs of a set within a span, minute by minute. -/
namespace Go.Proofs.YtcdodfehnkgjdaaGreatDoor

/-- Spans with one minute more, behind them. -/
def more (l : List (Int × Int)) (m : Int) : List (Int × Int) :=
  match l.getLast? with
  | some x => if x.2 = m - 1 then l.dropLast ++ [(x.1, m)] else l ++ [(m, m)]
  | none => [(m, m)]
/-- The spans of the first k minutes from lo on. -/
def spn (H : Int → Bool) (lo : Int) : Nat → List (Int × Int)
  | 0 => []
  | k + 1 => if H (lo + k) = true then more (spn H lo k) (lo + k) else spn H lo k
def cntH (H : Int → Bool) (lo : Int) : Nat → Int
  | 0 => 0
  | k + 1 => if H (lo + k) = true then cntH H lo k + 1 else cntH H lo k
def tot (l : List (Int × Int)) : Int := l.foldl (fun n x => n + (x.2 - x.1 + 1)) 0

theorem tot_nil : tot [] = 0 := rfl
theorem tot_snoc (l : List (Int × Int)) (x : Int × Int) : tot (l ++ [x]) = tot l + (x.2 - x.1 + 1) := by simp [tot, List.foldl_append]
theorem more_empty (m : Int) : more [] m = [(m, m)] := rfl
theorem more_snoc (l : List (Int × Int)) (x : Int × Int) (m : Int) : more (l ++ [x]) m = if x.2 = m - 1 then l ++ [(x.1, m)] else l ++ [x] ++ [(m, m)] := by
  simp [more]
theorem list_cases {α : Type} (l : List α) : l = [] ∨ ∃ i x, l = i ++ [x] := by
  rcases List.eq_nil_or_concat l with h | ⟨i, x, h⟩
  · exact .inl h
  · exact .inr ⟨i, x, by simpa using h⟩
theorem tot_more (l : List (Int × Int)) (m : Int) : tot (more l m) = tot l + 1 := by
  rcases list_cases l with rfl | ⟨i, x, rfl⟩
  · simp [more_empty, tot]
  · rw [more_snoc, tot_snoc]
    split
    · rw [tot_snoc]; simp; omega
    · rw [tot_snoc, tot_snoc]; simp
theorem tot_spn (H : Int → Bool) (lo : Int) : ∀ k, tot (spn H lo k) = cntH H lo k
  | 0 => rfl
  | k + 1 => by
    unfold spn cntH
    split
    · rw [tot_more, tot_spn H lo k]
    · exact tot_spn H lo k
theorem cntH_bd (H : Int → Bool) (lo : Int) : ∀ k : Nat, 0 ≤ cntH H lo k ∧ cntH H lo k ≤ k
  | 0 => ⟨Int.le_refl _, Int.le_refl _⟩
  | k + 1 => by
    have := cntH_bd H lo k
    unfold cntH
    split <;> omega
theorem spn_len (H : Int → Bool) (lo : Int) : ∀ k : Nat, (spn H lo k).length ≤ k
  | 0 => Nat.le_refl _
  | k + 1 => by
    have := spn_len H lo k
    unfold spn
    split
    · rcases list_cases (spn H lo k) with e | ⟨i, x, e⟩
      · rw [e, more_empty]; simp
      · rw [e] at this ⊢
        rw [more_snoc]
        split <;> simp at this ⊢ <;> omega
    · omega

/-- What each span is. -/
def SpanIn (H : Int → Bool) (lo : Int) (k : Nat) (x : Int × Int) : Prop := lo ≤ x.1 ∧ x.1 ≤ x.2 ∧ x.2 < lo + k ∧ ∀ m, x.1 ≤ m → m ≤ x.2 → H m = true
theorem spanIn_one {H : Int → Bool} {lo : Int} {k : Nat} (hH : H (lo + k) = true) : SpanIn H lo (k + 1) (lo + k, lo + k) := by
  refine ⟨?_, ?_, ?_, ?_⟩
  · show lo ≤ lo + (k : Int); omega
  · exact Int.le_refl _
  · show lo + (k : Int) < lo + ((k + 1 : Nat) : Int); omega
  · intro m h1 h2
    have h1' : lo + (k : Int) ≤ m := h1
    have h2' : m ≤ lo + (k : Int) := h2
    obtain rfl : m = lo + k := by omega
    exact hH
theorem spn_in (H : Int → Bool) (lo : Int) : ∀ (k : Nat), ∀ x ∈ spn H lo k, SpanIn H lo k x
  | 0, x, h => by simp [spn] at h
  | k + 1, x, h => by
    have ih := spn_in H lo k
    unfold spn at h
    split at h
    · rename_i hH
      rcases list_cases (spn H lo k) with e | ⟨i, y, e⟩
      · rw [e, more_empty] at h
        simp at h
        subst h
        exact spanIn_one hH
      · rw [e, more_snoc] at h
        rw [e] at ih
        split at h
        · rename_i hy
          rcases List.mem_append.1 h with h | h
          · obtain ⟨a, b, c, d⟩ := ih x (by simp [h])
            exact ⟨a, b, by omega, d⟩
          · simp at h
            subst h
            obtain ⟨a, b, c, d⟩ := ih y (by simp)
            refine ⟨a, by simp; omega, by simp; omega, fun m h1 h2 => ?_⟩
            simp at h1 h2
            by_cases hm : m ≤ y.2
            · exact d m h1 hm
            · obtain rfl : m = lo + k := by omega
              exact hH
        · rcases List.mem_append.1 h with h | h
          · obtain ⟨a, b, c, d⟩ := ih x h
            exact ⟨a, b, by omega, d⟩
          · simp at h
            subst h
            exact spanIn_one hH
    · obtain ⟨a, b, c, d⟩ := ih x h
      exact ⟨a, b, by omega, d⟩

theorem spn_gap (H : Int → Bool) (lo : Int) (k : Nat) : ∀ (d : Nat), (∀ m, lo + k ≤ m → m < lo + k + d → H m = false) → spn H lo (k + d) = spn H lo k
  | 0, _ => rfl
  | d + 1, h => by
    rw [← Nat.add_assoc]
    show (if H (lo + ((k + d : Nat) : Int)) = true then _ else _) = _
    rw [if_neg (by rw [h _ (by omega) (by omega)]; simp)]
    exact spn_gap H lo k d (fun m h1 h2 => h m h1 (by omega))
theorem spn_run (H : Int → Bool) (lo : Int) (k : Nat) (h0 : k = 0 ∨ H (lo + k - 1) = false) : ∀ (d : Nat), (∀ m, lo + k ≤ m → m ≤ lo + k + d → H m = true) → spn H lo (k + d + 1) = spn H lo k ++ [(lo + k, lo + k + d)]
  | 0, h => by
    show (if H (lo + ((k + 0 : Nat) : Int)) = true then _ else _) = _
    rw [if_pos (h _ (by omega) (by omega))]
    show more (spn H lo k) (lo + (k : Int)) = spn H lo k ++ [(lo + (k : Int), lo + (k : Int) + ((0 : Nat) : Int))]
    rw [show lo + (k : Int) + ((0 : Nat) : Int) = lo + k by omega]
    rcases list_cases (spn H lo k) with e | ⟨i, x, e⟩
    · rw [e, more_empty]; rfl
    · have hx := spn_in H lo k x (by rw [e]; simp)
      rw [e, more_snoc, if_neg]
      · intro hc
        rcases h0 with rfl | h0
        · simp [spn] at e
        · rw [← hc, hx.2.2.2 x.2 hx.2.1 (Int.le_refl _)] at h0; cases h0
  | d + 1, h => by
    have ih := spn_run H lo k h0 d (fun m h1 h2 => h m h1 (by omega))
    show (if H (lo + ((k + (d + 1) : Nat) : Int)) = true then more (spn H lo (k + (d + 1))) _ else _) = _
    rw [if_pos (h _ (by omega) (by omega)), show k + (d + 1) = k + d + 1 from rfl, ih, more_snoc, if_pos (by simp; omega)]
    simp; omega

theorem tot_pos : ∀ (l : List (Int × Int)), (∀ y ∈ l, y.1 ≤ y.2) → 0 ≤ tot l := by
  intro l
  induction h : l.length generalizing l with
  | zero => intro _; rw [List.length_eq_zero_iff.1 h]; exact Int.le_refl _
  | succ n ih =>
    intro hl
    rcases list_cases l with rfl | ⟨i, x, rfl⟩
    · exact Int.le_refl _
    · rw [tot_snoc]
      have := ih i (by simp at h; exact h) (fun y hy => hl y (by simp [hy]))
      have := hl x (by simp)
      omega
/-- The bounds of a list of runs. -/
theorem spn_tot {H : Int → Bool} {lo : Int} {k : Nat} {pre : List (Int × Int)} {x : Int × Int} (h : pre ++ [x] = spn H lo k) : 0 ≤ tot pre ∧ tot pre + (x.2 - x.1 + 1) ≤ k ∧ lo ≤ x.1 ∧ x.1 ≤ x.2 ∧ x.2 < lo + k := by
  have hx := spn_in H lo k x (by rw [← h]; simp)
  have h0 := tot_pos pre (fun y hy => (spn_in H lo k y (by rw [← h]; simp [hy])).2.1)
  have h1 := tot_spn H lo k
  have h2 := (cntH_bd H lo k).2
  rw [← h, tot_snoc] at h1
  exact ⟨h0, by omega, hx.1, hx.2.1, hx.2.2.1⟩

/-- The first run of what H holds of, within lo to hi: (a, b); both 2^40 if there is none. -/
def RunIs (H : Int → Prop) (lo hi a b : Int) : Prop :=
  (a = 1099511627776 ∧ b = 1099511627776 ∧ ∀ m, lo ≤ m → m ≤ hi → ¬ H m) ∨
  (lo ≤ a ∧ a ≤ b ∧ b ≤ hi ∧ (∀ m, lo ≤ m → m < a → ¬ H m) ∧ (∀ m, a ≤ m → m ≤ b → H m) ∧ (b = hi ∨ ¬ H (b + 1)))

/-- Where a sweep stands between two runs: k minutes from lo on are done. -/
def Stands (H : Int → Bool) (lo hi : Int) (k : Nat) : Prop := k = 0 ∨ lo + k = hi + 1 ∨ H (lo + k) = false
theorem stands_none {H : Int → Bool} {H' : Int → Prop} (he : ∀ m, H m = true ↔ H' m) {lo hi a b : Int} {k : Nat} (hk : lo + k ≤ hi + 1) (hr : RunIs H' (lo + k) hi a b) (hn : hi < a) :
    spn H lo k = spn H lo (hi + 1 - lo).toNat := by
  rcases hr with ⟨_, _, h⟩ | ⟨_, h1, h2, _⟩
  · have e : (hi + 1 - lo).toNat = k + (hi + 1 - lo - k).toNat := by omega
    rw [e, spn_gap H lo k _ (fun m h1 h2 => by
      have := h m h1 (by omega)
      rw [← he] at this
      simpa using this)]
  · omega
theorem stands_run {H : Int → Bool} {H' : Int → Prop} (he : ∀ m, H m = true ↔ H' m) {lo hi a b : Int} {k : Nat} (hk : lo + k ≤ hi) (hs : Stands H lo hi k) (hr : RunIs H' (lo + k) hi a b) (hn : a ≤ hi) (hbig : hi < 1099511627776) :
    lo + k ≤ a ∧ a ≤ b ∧ b ≤ hi ∧ spn H lo (b + 1 - lo).toNat = spn H lo k ++ [(a, b)] ∧ Stands H lo hi (b + 1 - lo).toNat := by
  have hf : ∀ m, ¬ H' m → H m = false := fun m h => by rw [← he] at h; simpa using h
  rcases hr with ⟨h, _, _⟩ | ⟨h1, h2, h3, h4, h5, h6⟩
  · omega
  · refine ⟨h1, h2, h3, ?_, ?_⟩
    · have ea : (a - lo).toNat = k + (a - lo - k).toNat := by omega
      have eb : (b + 1 - lo).toNat = (a - lo).toNat + (b - a).toNat + 1 := by omega
      have e0 : (a - lo).toNat = 0 ∨ H (lo + ((a - lo).toNat : Int) - 1) = false := by
        by_cases c : a = lo + k
        · subst c
          rcases hs with rfl | hs | hs
          · left; omega
          · omega
          · exact absurd (h5 _ (Int.le_refl _) h2) (by rw [← he, hs]; simp)
        · right
          exact hf _ (h4 _ (by omega) (by omega))
      rw [eb, spn_run H lo _ e0 _ (fun m q1 q2 => (he m).2 (h5 m (by omega) (by omega)))]
      congr 1
      · rw [ea, spn_gap H lo k _ (fun m q1 q2 => hf m (h4 m q1 (by omega)))]
      · congr 1
        apply Prod.ext <;> simp <;> omega
    · rcases h6 with h6 | h6
      · right; left; omega
      · right; right
        rw [show lo + ((b + 1 - lo).toNat : Int) = b + 1 by omega]
        exact hf _ h6

/-- Is an integer in a lot? -/
def Lot.hasB (x : Lot) (n : Int) : Bool := if x.kind then decide ((n - x.b) % x.a < x.c) else decide (x.a ≤ n ∧ n ≤ x.b)
theorem Lot.hasB_iff (x : Lot) (n : Int) : x.hasB n = true ↔ x.has n := by
  unfold Lot.hasB Lot.has inT
  split <;> simp
def setB (xs : List Lot) (n : Int) : Bool := xs.any fun x => x.hasB n
theorem setB_iff (xs : List Lot) (n : Int) : setB xs n = true ↔ ∃ x ∈ xs, x.has n := by
  unfold setB
  rw [List.any_eq_true]
  constructor
  · rintro ⟨x, h1, h2⟩; exact ⟨x, h1, (x.hasB_iff n).1 h2⟩
  · rintro ⟨x, h1, h2⟩; exact ⟨x, h1, (x.hasB_iff n).2 h2⟩
end Go.Proofs.YtcdodfehnkgjdaaGreatDoor

/- Plain mathematics: which minutes the runs of a set have; marks; the least common multiple of many periods. -/
namespace Go.Proofs.YtcdodfehnkgjdaaGreatDoor

theorem more_cover (l : List (Int × Int)) (m : Int) : (∀ x ∈ l, ∃ y ∈ more l m, y.1 = x.1 ∧ (x.2 ≤ y.2 ∨ x.2 = y.2) ∨ (∃ y ∈ more l m, y = x)) ∧ True := ⟨fun x hx => by
  rcases list_cases l with rfl | ⟨i, z, rfl⟩
  · cases hx
  · rw [more_snoc]
    split
    · rename_i hz
      rcases List.mem_append.1 hx with h | h
      · exact ⟨x, by simp [h], .inl ⟨rfl, .inr rfl⟩⟩
      · simp at h
        subst h
        exact ⟨(x.1, m), by simp, .inl ⟨rfl, .inl (by simp; omega)⟩⟩
    · exact ⟨x, by simp at hx ⊢; rcases hx with h | h <;> simp [h], .inl ⟨rfl, .inr rfl⟩⟩, trivial⟩
theorem spn_cover (H : Int → Bool) (lo : Int) : ∀ (k : Nat) (m : Int), lo ≤ m → m < lo + k → H m = true → ∃ x ∈ spn H lo k, x.1 ≤ m ∧ m ≤ x.2
  | 0, m, h1, h2, _ => by omega
  | k + 1, m, h1, h2, hm => by
    by_cases e : m = lo + k
    · subst e
      unfold spn
      rw [if_pos hm]
      rcases list_cases (spn H lo k) with q | ⟨i, z, q⟩
      · rw [q, more_empty]
        exact ⟨_, List.mem_singleton.2 rfl, Int.le_refl _, Int.le_refl _⟩
      · have hz := spn_in H lo k z (by rw [q]; simp)
        rw [q, more_snoc]
        split
        · exact ⟨(z.1, lo + k), by simp, by have := hz.1; have := hz.2.1; have := hz.2.2.1; simp; omega, Int.le_refl _⟩
        · exact ⟨(lo + k, lo + k), by simp, Int.le_refl _, Int.le_refl _⟩
    · obtain ⟨x, hx, hx1, hx2⟩ := spn_cover H lo k m h1 (by omega) hm
      unfold spn
      split
      · obtain ⟨y, hy, h⟩ := (more_cover (spn H lo k) (lo + k)).1 x hx
        rcases h with ⟨e1, e2⟩ | ⟨z, hz, rfl⟩
        · exact ⟨y, hy, by omega, by omega⟩
        · exact ⟨z, hz, hx1, hx2⟩
      · exact ⟨x, hx, hx1, hx2⟩

/-- Is a number in one of some spans? -/
def inAny (l : List (Int × Int)) (m : Int) : Bool := l.any fun x => decide (x.1 ≤ m) && decide (m ≤ x.2)
theorem inAny_iff (l : List (Int × Int)) (m : Int) : inAny l m = true ↔ ∃ x ∈ l, x.1 ≤ m ∧ m ≤ x.2 := by simp [inAny]
theorem inAny_spn (H : Int → Bool) (lo : Int) (k : Nat) (m : Int) (h1 : lo ≤ m) (h2 : m < lo + k) : inAny (spn H lo k) m = H m := by
  rw [Bool.eq_iff_iff, inAny_iff]
  constructor
  · rintro ⟨x, hx, a, b⟩
    exact (spn_in H lo k x hx).2.2.2 m a b
  · exact spn_cover H lo k m h1 h2
/-- The marks of n numbers from 0 on. -/
def marks (n : Nat) (f : Int → Bool) : List Bool := (List.range n).map fun (i : Nat) => f (i : Int)
theorem marks_len (n : Nat) (f : Int → Bool) : (marks n f).length = n := by simp [marks]
theorem marks_at (n : Nat) (f : Int → Bool) (i : Nat) (h : i < n) : (marks n f)[i]? = some (f i) := by simp [marks, h]
theorem marks_set (n : Nat) (f g : Int → Bool) (i : Nat) (hi : i < n) (hg : g i = true) (ho : ∀ m : Int, m ≠ i → g m = f m) : (marks n f).set i true = marks n g := by
  apply List.ext_getElem?
  intro j
  rw [List.getElem?_set]
  by_cases hj : j < n
  · rw [marks_at n g j hj]
    by_cases e : i = j
    · subst e; simp [marks_len, hi, hg]
    · rw [if_neg e, marks_at n f j hj, ho j (by omega)]
  · rw [List.getElem?_eq_none (l := marks n g) (by rw [marks_len]; omega)]
    split
    · rw [if_neg (by rw [marks_len]; omega)]
    · rw [List.getElem?_eq_none (by rw [marks_len]; omega)]
theorem marks_congr (n : Nat) (f g : Int → Bool) (h : ∀ m : Int, 0 ≤ m → m < n → f m = g m) : marks n f = marks n g := by
  apply List.ext_getElem?
  intro j
  by_cases hj : j < n
  · rw [marks_at n f j hj, marks_at n g j hj, h j (by omega) (by omega)]
  · rw [List.getElem?_eq_none (by rw [marks_len]; omega), List.getElem?_eq_none (by rw [marks_len]; omega)]

/-- The least common multiple of the periods of some turns. -/
def lcmS (l : List (Int × Int × Int)) : Int := l.foldl (fun a t => lcmF a t.1) 1
theorem lcmS_snoc (l : List (Int × Int × Int)) (t : Int × Int × Int) : lcmS (l ++ [t]) = lcmF (lcmS l) t.1 := by simp [lcmS, List.foldl_append]
theorem lcmS_pos : ∀ (n : Nat) (l : List (Int × Int × Int)), l.length = n → (∀ t ∈ l, 1 ≤ t.1) → 1 ≤ lcmS l := by
  intro n
  induction n with
  | zero => intro l h _; rw [List.length_eq_zero_iff.1 h]; exact Int.le_refl _
  | succ n ih =>
    intro l h ht
    rcases List.eq_nil_or_concat l with e | ⟨i, x, e⟩
    · subst e; cases h
    · have e' : l = i ++ [x] := by simpa using e
      subst e'
      rw [lcmS_snoc]
      exact lcmF_pos (ih i (by simp at h; exact h) (fun t q => ht t (by simp [q]))) (ht x (by simp))
end Go.Proofs.YtcdodfehnkgjdaaGreatDoor

/- Plain mathematics: how a text is read. -/
namespace Go.Proofs.YtcdodfehnkgjdaaGreatDoor

def canL : Nat → Int → Int → Int → Int → Bool
  | 0, _, _, _, _ => false
  | f + 1, low, high, lo, hi => if low ≤ hi then (if lo ≤ high then true else canL f (low * 10) (high * 10 + 9) lo hi) else false
/-- Do the digits of a number begin one from lo to hi? -/
def beginsB (n lo hi : Int) : Bool := if n = 0 then decide (lo = 0) else canL (hi + 1 - n).toNat n n lo hi
theorem canL_fuel : ∀ (f g : Nat) (low high lo hi : Int), 1 ≤ low → (hi + 1 - low).toNat ≤ f → (hi + 1 - low).toNat ≤ g → canL f low high lo hi = canL g low high lo hi
  | 0, 0, _, _, _, _, _, _, _ => rfl
  | 0, g + 1, low, high, lo, hi, h1, hf, _ => by
    unfold canL; rw [if_neg (by omega)]
  | f + 1, 0, low, high, lo, hi, h1, _, hg => by
    unfold canL; rw [if_neg (by omega)]
  | f + 1, g + 1, low, high, lo, hi, h1, hf, hg => by
    unfold canL
    by_cases c : low ≤ hi
    · rw [if_pos c, if_pos c, canL_fuel f g (low * 10) (high * 10 + 9) lo hi (by omega) (by omega) (by omega)]
    · rw [if_neg c, if_neg c]
theorem canL_stop {low high lo hi : Int} (h : ¬ low ≤ hi) : canL (hi + 1 - low).toNat low high lo hi = false := by
  rw [show (hi + 1 - low).toNat = 0 by omega]; rfl
theorem canL_yes {low high lo hi : Int} (h : low ≤ hi) (h2 : lo ≤ high) : canL (hi + 1 - low).toNat low high lo hi = true := by
  obtain ⟨f, hf⟩ : ∃ f, (hi + 1 - low).toNat = f + 1 := ⟨(hi - low).toNat, by omega⟩
  rw [hf]; unfold canL; rw [if_pos h, if_pos h2]
theorem canL_go {low high lo hi : Int} (h0 : 1 ≤ low) (h : low ≤ hi) (h2 : ¬ lo ≤ high) : canL (hi + 1 - low).toNat low high lo hi = canL (hi + 1 - low * 10).toNat (low * 10) (high * 10 + 9) lo hi := by
  obtain ⟨f, hf⟩ : ∃ f, (hi + 1 - low).toNat = f + 1 := ⟨(hi - low).toNat, by omega⟩
  rw [hf]
  conv => lhs; unfold canL
  rw [if_pos h, if_neg h2]
  exact canL_fuel _ _ _ _ _ _ (by omega) (by omega) (Nat.le_refl _)
theorem beginsB_le {n lo hi : Int} (h : beginsB n lo hi = true) : n ≤ hi ∨ (n = 0 ∧ lo = 0) := by
  unfold beginsB at h
  split at h
  · right; exact ⟨by assumption, by simpa using h⟩
  · by_cases c : n ≤ hi
    · exact .inl c
    · rw [canL_stop c] at h; cases h

/-- One byte of a word. -/
def stepW (s : List UInt8) (st : Nat × Bool) (c : UInt8) : Nat × Bool := if st.2 = true then st else if s[st.1]? = some c then (st.1 + 1, false) else (st.1, true)
/-- A word is read: where the reader stands behind it, and whether it has failed. -/
def wordF (s w : List UInt8) (st : Nat × Bool) : Nat × Bool := w.foldl (stepW s) st
theorem wordF_snoc (s w : List UInt8) (c : UInt8) (st : Nat × Bool) : wordF s (w ++ [c]) st = stepW s (wordF s w st) c := by simp [wordF, List.foldl_append]
theorem wordF_bad (s : List UInt8) : ∀ (w : List UInt8) (a : Nat), wordF s w (a, true) = (a, true)
  | [], _ => rfl
  | c :: w, a => by
    have : wordF s (c :: w) (a, true) = wordF s w (stepW s (a, true) c) := rfl
    rw [this, show stepW s (a, true) c = (a, true) from rfl]
    exact wordF_bad s w a
theorem wordF_le (s : List UInt8) : ∀ (w : List UInt8) (st : Nat × Bool), st.1 ≤ s.length → (wordF s w st).1 ≤ s.length ∧ st.1 ≤ (wordF s w st).1
  | [], st, h => ⟨h, Nat.le_refl _⟩
  | c :: w, st, h => by
    have e : wordF s (c :: w) st = wordF s w (stepW s st c) := rfl
    rw [e]
    have hs : (stepW s st c).1 ≤ s.length ∧ st.1 ≤ (stepW s st c).1 := by
      unfold stepW
      split
      · exact ⟨h, Nat.le_refl _⟩
      · split
        · rename_i hc
          have := (List.getElem?_eq_some_iff.1 hc).1
          exact ⟨by simp; omega, by simp⟩
        · exact ⟨h, Nat.le_refl _⟩
    have := wordF_le s w (stepW s st c) hs.1
    exact ⟨this.1, by omega⟩

/-- May a byte be the next digit? -/
def digB (lo hi n : Int) (dg : Nat) (c : UInt8) : Bool :=
  decide (48 ≤ c.toNat) && decide (c.toNat ≤ 57) && !(decide (0 < dg) && decide (n = 0)) && beginsB (n * 10 + ((c.toNat : Int) - 48)) lo hi
/-- Digits are read: the number, how many there were, and where the reader stands. -/
def digL (s : List UInt8) (lo hi : Int) : Nat → Int → Nat → Nat → Int × Nat × Nat
  | 0, n, dg, a => (n, dg, a)
  | f + 1, n, dg, a =>
    match s[a]? with
    | some c => if digB lo hi n dg c = true then digL s lo hi f (n * 10 + ((c.toNat : Int) - 48)) (dg + 1) (a + 1) else (n, dg, a)
    | none => (n, dg, a)
def digF (s : List UInt8) (lo hi n : Int) (dg a : Nat) : Int × Nat × Nat := digL s lo hi (s.length - a) n dg a
theorem digF_go {s : List UInt8} {lo hi n : Int} {dg a : Nat} {c : UInt8} (hc : s[a]? = some c) (hd : digB lo hi n dg c = true) : digF s lo hi n dg a = digF s lo hi (n * 10 + ((c.toNat : Int) - 48)) (dg + 1) (a + 1) := by
  have hl := (List.getElem?_eq_some_iff.1 hc).1
  unfold digF
  rw [show s.length - a = (s.length - (a + 1)) + 1 by omega]
  conv => lhs; unfold digL
  simp [hc, hd]
theorem digF_no {s : List UInt8} {lo hi n : Int} {dg a : Nat} {c : UInt8} (hc : s[a]? = some c) (hd : digB lo hi n dg c = false) : digF s lo hi n dg a = (n, dg, a) := by
  have hl := (List.getElem?_eq_some_iff.1 hc).1
  unfold digF
  rw [show s.length - a = (s.length - (a + 1)) + 1 by omega]
  unfold digL
  simp [hc, hd]
theorem digF_end {s : List UInt8} {lo hi n : Int} {dg a : Nat} (hc : s.length ≤ a) : digF s lo hi n dg a = (n, dg, a) := by
  unfold digF
  rw [show s.length - a = 0 by omega]; rfl
theorem digB_le {lo hi n : Int} {dg : Nat} {c : UInt8} (h : digB lo hi n dg c = true) : 48 ≤ c.toNat ∧ (n * 10 + ((c.toNat : Int) - 48) ≤ hi ∨ n * 10 + ((c.toNat : Int) - 48) = 0) := by
  unfold digB at h
  simp only [Bool.and_eq_true, decide_eq_true_eq] at h
  obtain ⟨⟨⟨h1, _⟩, _⟩, h4⟩ := h
  rcases beginsB_le h4 with h | ⟨h, _⟩
  · exact ⟨h1, .inl h⟩
  · exact ⟨h1, .inr h⟩
/-- A number is read: it, where the reader stands, and whether it has failed. -/
def numF (s : List UInt8) (lo hi : Int) (st : Nat × Bool) : Int × Nat × Bool :=
  if st.2 = true then (0, st) else
    let r := digF s lo hi 0 0 st.1
    (r.1, r.2.2, decide (r.2.1 = 0) || decide (r.1 < lo))

theorem digL_bd (s : List UInt8) (lo hi H : Int) (hH : 0 ≤ H) (hi' : hi ≤ H) : ∀ (f : Nat) (n : Int) (dg a : Nat), 0 ≤ n → n ≤ H → a ≤ s.length → 0 ≤ (digL s lo hi f n dg a).1 ∧ (digL s lo hi f n dg a).1 ≤ H ∧ a ≤ (digL s lo hi f n dg a).2.2 ∧ (digL s lo hi f n dg a).2.2 ≤ s.length
  | 0, n, dg, a, h1, h2, h3 => ⟨h1, h2, Nat.le_refl _, h3⟩
  | f + 1, n, dg, a, h1, h2, h3 => by
    unfold digL
    cases hc : s[a]? with
    | none => exact ⟨h1, h2, Nat.le_refl _, h3⟩
    | some c =>
      have hl := (List.getElem?_eq_some_iff.1 hc).1
      simp only
      split
      · rename_i hd
        obtain ⟨q1, q2⟩ := digB_le hd
        have := digL_bd s lo hi H hH hi' f (n * 10 + ((c.toNat : Int) - 48)) (dg + 1) (a + 1) (by omega) (by omega) (by omega)
        exact ⟨this.1, this.2.1, by omega, this.2.2.2⟩
      · exact ⟨h1, h2, Nat.le_refl _, h3⟩
theorem numF_bd (s : List UInt8) (lo hi H : Int) (st : Nat × Bool) (hH : 0 ≤ H) (hi' : hi ≤ H) (h : st.1 ≤ s.length) : 0 ≤ (numF s lo hi st).1 ∧ (numF s lo hi st).1 ≤ H ∧ st.1 ≤ (numF s lo hi st).2.1 ∧ (numF s lo hi st).2.1 ≤ s.length := by
  unfold numF
  split
  · exact ⟨Int.le_refl _, hH, Nat.le_refl _, h⟩
  · have := digL_bd s lo hi H hH hi' (s.length - st.1) 0 0 st.1 (Int.le_refl _) hH h
    exact this
end Go.Proofs.YtcdodfehnkgjdaaGreatDoor

/- Plain mathematics: what a set leaves of a span, from its runs. -/
namespace Go.Proofs.YtcdodfehnkgjdaaGreatDoor

def notH (H : Int → Bool) (m : Int) : Bool := !H m
def gapStep (s : List (Int × Int) × Int) (x : Int × Int) : List (Int × Int) × Int := (if s.2 < x.1 then s.1 ++ [(s.2, x.1 - 1)] else s.1, x.2 + 1)
/-- The gaps ahead of the runs that have come, and the integer behind the last run. -/
def gapsAt (lo : Int) (p : List (Int × Int)) : List (Int × Int) × Int := p.foldl gapStep ([], lo)
theorem gapsAt_nil (lo : Int) : gapsAt lo [] = ([], lo) := rfl
theorem gapsAt_snoc (lo : Int) (p : List (Int × Int)) (x : Int × Int) : gapsAt lo (p ++ [x]) = gapStep (gapsAt lo p) x := by simp [gapsAt, List.foldl_append]

structure GapInv (H : Int → Bool) (lo : Int) (k : Nat) (g : List (Int × Int)) (at_ : Int) : Prop where
  lo_le : lo ≤ at_
  le : at_ ≤ lo + k
  none : ∀ m, at_ ≤ m → m < lo + k → H m = false
  eq : spn (notH H) lo (at_ - lo).toNat = g
  last : at_ = lo ∨ H (at_ - 1) = true

theorem GapInv.full {H : Int → Bool} {lo : Int} {k : Nat} {g : List (Int × Int)} {at_ : Int} (h : GapInv H lo k g at_) : spn (notH H) lo k = if at_ < lo + k then g ++ [(at_, lo + k - 1)] else g := by
  obtain ⟨h1, h2, h3, h4, h5⟩ := h
  split
  · rename_i hlt
    have e := spn_run (notH H) lo (at_ - lo).toNat (by
      rcases h5 with h5 | h5
      · left; omega
      · right; rw [show lo + ((at_ - lo).toNat : Int) - 1 = at_ - 1 by omega]; simp [notH, h5]) (lo + k - 1 - at_).toNat (fun m m1 m2 => by
        simp [notH, h3 m (by omega) (by omega)])
    rw [show (at_ - lo).toNat + (lo + k - 1 - at_).toNat + 1 = k by omega, h4] at e
    rw [e]
    congr 2
    apply Prod.ext <;> simp <;> omega
  · rw [← h4, show (at_ - lo).toNat = k by omega]

theorem gap_more {H : Int → Bool} {lo : Int} {k : Nat} {p : List (Int × Int)} (h : GapInv H lo k (gapsAt lo p).1 (gapsAt lo p).2) (hH : H (lo + k) = true) : GapInv H lo (k + 1) (gapsAt lo (more p (lo + k))).1 (gapsAt lo (more p (lo + k))).2 := by
  have hf := h.full
  obtain ⟨h1, h2, h3, h4, h5⟩ := h
  have hs : spn (notH H) lo (k + 1) = spn (notH H) lo k := by
    show (if notH H (lo + k) = true then _ else _) = _
    rw [if_neg (by simp [notH, hH])]
  have key : ∀ l, gapsAt lo l = (spn (notH H) lo k, lo + k + 1) → GapInv H lo (k + 1) (gapsAt lo l).1 (gapsAt lo l).2 := by
    intro l e
    rw [e]
    refine ⟨?_, ?_, ?_, ?_, ?_⟩
    · show lo ≤ lo + (k : Int) + 1; omega
    · show lo + (k : Int) + 1 ≤ lo + ((k + 1 : Nat) : Int); omega
    · intro m m1 m2
      have m1' : lo + (k : Int) + 1 ≤ m := m1
      omega
    · show spn (notH H) lo (lo + (k : Int) + 1 - lo).toNat = spn (notH H) lo k
      rw [show (lo + (k : Int) + 1 - lo).toNat = k + 1 by omega, hs]
    · right
      show H (lo + (k : Int) + 1 - 1) = true
      rw [show lo + (k : Int) + 1 - 1 = lo + k by omega, hH]
  apply key
  rcases list_cases p with rfl | ⟨i, x, rfl⟩
  · rw [more_empty, show [(lo + (k : Int), lo + (k : Int))] = [] ++ [(lo + (k : Int), lo + (k : Int))] from rfl, gapsAt_snoc, hf]
    simp only [gapStep]
  · rw [more_snoc]
    rw [gapsAt_snoc] at h2 hf
    have h2' : x.2 + 1 ≤ lo + (k : Int) := h2
    split
    · rename_i hx
      rw [gapsAt_snoc]
      have hf2 : spn (notH H) lo k = (gapStep (gapsAt lo i) x).1 := hf.trans (if_neg (by show ¬ (x.2 + 1 < lo + (k : Int)); omega))
      show ((gapStep (gapsAt lo i) x).1, _) = _
      rw [hf2]
    · rename_i hx
      rw [gapsAt_snoc, gapsAt_snoc]
      have c : (gapStep (gapsAt lo i) x).2 < lo + (k : Int) := by show x.2 + 1 < lo + (k : Int); omega
      have hf2 := hf.trans (if_pos c)
      show (if (gapStep (gapsAt lo i) x).2 < lo + (k : Int) then _ else _, lo + (k : Int) + 1) = _
      rw [if_pos c, hf2]

theorem gap_inv (H : Int → Bool) (lo : Int) : ∀ k : Nat, GapInv H lo k (gapsAt lo (spn H lo k)).1 (gapsAt lo (spn H lo k)).2
  | 0 => ⟨Int.le_refl _, by show lo ≤ lo + ((0 : Nat) : Int); omega, (fun m h1 h2 => by have h1' : lo ≤ m := h1; omega), by show spn (notH H) lo (lo - lo).toNat = []; rw [show (lo - lo).toNat = 0 by omega]; rfl, .inl rfl⟩
  | k + 1 => by
    have ih := gap_inv H lo k
    unfold spn
    split
    · rename_i hH
      exact gap_more ih hH
    · rename_i hH
      obtain ⟨h1, h2, h3, h4, h5⟩ := ih
      refine ⟨h1, by omega, fun m m1 m2 => ?_, h4, h5⟩
      by_cases c : m < lo + k
      · exact h3 m m1 c
      · obtain rfl : m = lo + k := by omega
        simpa using hH

/-- What is yielded ahead of a run. -/
theorem gap_round {H : Int → Bool} {lo : Int} {k : Nat} {pre : List (Int × Int)} {x : Int × Int} (h : pre ++ [x] = spn H lo k) :
    (gapStep (gapsAt lo pre) x).1 = spn (notH H) lo (x.2 + 1 - lo).toNat ∧ lo ≤ x.2 + 1 ∧ x.2 + 1 ≤ lo + k := by
  have hi := gap_inv H lo k
  rw [← h, gapsAt_snoc] at hi
  exact ⟨hi.eq.symm, hi.lo_le, hi.le⟩
/-- And behind the last one. -/
theorem gap_done {H : Int → Bool} {lo hi : Int} (h : lo ≤ hi + 1) {p : List (Int × Int)} (hp : p = spn H lo (hi + 1 - lo).toNat) :
    spn (notH H) lo (hi + 1 - lo).toNat = (if (gapsAt lo p).2 ≤ hi then (gapsAt lo p).1 ++ [((gapsAt lo p).2, hi)] else (gapsAt lo p).1) ∧ lo ≤ (gapsAt lo p).2 ∧ (gapsAt lo p).2 ≤ hi + 1 ∧ (gapsAt lo p).1 = spn (notH H) lo ((gapsAt lo p).2 - lo).toNat := by
  subst hp
  have hi' := gap_inv H lo (hi + 1 - lo).toNat
  have e := hi'.full
  refine ⟨?_, hi'.lo_le, by have := hi'.le; omega, hi'.eq.symm⟩
  rw [e]
  by_cases c : (gapsAt lo (spn H lo (hi + 1 - lo).toNat)).2 ≤ hi
  · rw [if_pos (by omega), if_pos c]
    congr 2
    apply Prod.ext <;> simp <;> omega
  · rw [if_neg (by omega), if_neg c]
end Go.Proofs.YtcdodfehnkgjdaaGreatDoor

/- Plain mathematics: what two sets have in common, run by run. -/
namespace Go.Proofs.YtcdodfehnkgjdaaGreatDoor

def andH (H H' : Int → Bool) (m : Int) : Bool := H m && H' m
theorem more_append (a b : List (Int × Int)) (m : Int) (hb : b ≠ []) : more (a ++ b) m = a ++ more b m := by
  rcases list_cases b with rfl | ⟨i, x, rfl⟩
  · exact absurd rfl hb
  · rw [← List.append_assoc, more_snoc, more_snoc]
    split <;> simp
theorem spn_break (H : Int → Bool) (lo : Int) (k : Nat) (h0 : k = 0 ∨ H (lo + k - 1) = false) : ∀ d : Nat, spn H lo (k + d) = spn H lo k ++ spn H (lo + k) d
  | 0 => by simp [spn]
  | d + 1 => by
    have ih := spn_break H lo k h0 d
    show (if H (lo + ((k + d : Nat) : Int)) = true then more (spn H lo (k + d)) (lo + ((k + d : Nat) : Int)) else spn H lo (k + d)) = spn H lo k ++ (if H (lo + k + d) = true then more (spn H (lo + k) d) (lo + k + d) else spn H (lo + k) d)
    rw [show lo + ((k + d : Nat) : Int) = lo + k + d by omega, ih]
    split
    · by_cases hb : spn H (lo + k) d = []
      · rw [hb, List.append_nil, more_empty]
        rcases list_cases (spn H lo k) with e | ⟨i, y, e⟩
        · rw [e]; rfl
        · have hy := spn_in H lo k y (by rw [e]; simp)
          rw [e, more_snoc, if_neg]
          intro hc
          have h2 := hy.2.2.1
          have h1 := hy.1
          have h3 := hy.2.1
          rcases h0 with h0 | h0
          · omega
          · have := hy.2.2.2 y.2 h3 (Int.le_refl _)
            rw [show y.2 = lo + k - 1 by omega, h0] at this
            cases this
      · exact more_append _ _ _ hb
    · rfl
theorem spn_congr {H H' : Int → Bool} {lo : Int} : ∀ {d : Nat}, (∀ m, lo ≤ m → m < lo + d → H m = H' m) → spn H lo d = spn H' lo d
  | 0, _ => rfl
  | d + 1, h => by
    have ih := spn_congr (H := H) (H' := H') (lo := lo) (d := d) fun m h1 h2 => h m h1 (by omega)
    unfold spn
    rw [ih, h _ (by omega) (by omega)]
theorem spn_last {H : Int → Bool} {lo : Int} : ∀ {k : Nat}, H (lo + k) = true → ∃ i y, spn H lo (k + 1) = i ++ [y] ∧ y.2 = lo + k := by
  intro k h
  have e : spn H lo (k + 1) = more (spn H lo k) (lo + k) := by
    show (if H (lo + k) = true then _ else _) = _
    rw [if_pos h]
  rw [e]
  rcases list_cases (spn H lo k) with e | ⟨i, y, e⟩
  · rw [e, more_empty]; exact ⟨[], _, rfl, rfl⟩
  · rw [e, more_snoc]
    split
    · exact ⟨i, _, rfl, rfl⟩
    · exact ⟨i ++ [y], _, rfl, rfl⟩

/-- Where the last run begins, and what came ahead of it. -/
theorem spn_prefix {H : Int → Bool} {lo : Int} : ∀ {k : Nat} {pre : List (Int × Int)} {x : Int × Int}, pre ++ [x] = spn H lo k → pre = spn H lo (x.1 - lo).toNat ∧ (x.1 = lo ∨ H (x.1 - 1) = false) ∧ lo ≤ x.1 ∧ x.1 ≤ x.2 ∧ x.2 < lo + k ∧ ∀ m, x.1 ≤ m → m ≤ x.2 → H m = true
  | 0, pre, x, h => by simp [spn] at h
  | k + 1, pre, x, h => by
    have hx := spn_in H lo (k + 1) x (by rw [← h]; simp)
    suffices hs : pre = spn H lo (x.1 - lo).toNat ∧ (x.1 = lo ∨ H (x.1 - 1) = false) from ⟨hs.1, hs.2, hx⟩
    unfold spn at h
    split at h
    · rename_i hH
      rcases list_cases (spn H lo k) with e | ⟨i, y, e⟩
      · rw [e, more_empty] at h
        have h' : pre ++ [x] = [] ++ [(lo + (k : Int), lo + (k : Int))] := h
        obtain ⟨rfl, h2⟩ := List.append_inj' h' rfl
        obtain rfl : x = (lo + (k : Int), lo + (k : Int)) := by simpa using h2
        refine ⟨?_, ?_⟩
        · show [] = spn H lo (lo + (k : Int) - lo).toNat
          rw [show (lo + (k : Int) - lo).toNat = k by omega, e]
        · rcases k with _ | k
          · left; show lo + ((0 : Nat) : Int) = lo; omega
          · right
            show H (lo + ((k + 1 : Nat) : Int) - 1) = false
            rw [show lo + ((k + 1 : Nat) : Int) - 1 = lo + k by omega]
            cases hh : H (lo + k)
            · rfl
            · obtain ⟨i, y, e', _⟩ := spn_last (k := k) hh
              rw [e'] at e; simp at e
      · rw [e, more_snoc] at h
        split at h
        · obtain ⟨rfl, h2⟩ := List.append_inj' h rfl
          obtain rfl : x = (y.1, lo + (k : Int)) := by simpa using h2
          have ih := spn_prefix (k := k) e.symm
          exact ⟨ih.1, ih.2.1⟩
        · rename_i hy
          obtain ⟨rfl, h2⟩ := List.append_inj' h rfl
          obtain rfl : x = (lo + (k : Int), lo + (k : Int)) := by simpa using h2
          refine ⟨?_, ?_⟩
          · show i ++ [y] = spn H lo (lo + (k : Int) - lo).toNat
            rw [show (lo + (k : Int) - lo).toNat = k by omega, e]
          · right
            show H (lo + (k : Int) - 1) = false
            rcases k with _ | k
            · simp [spn] at e
            · rw [show lo + ((k + 1 : Nat) : Int) - 1 = lo + k by omega]
              cases hh : H (lo + k)
              · rfl
              · obtain ⟨i', y', e', hy'⟩ := spn_last (k := k) hh
                rw [e'] at e
                obtain ⟨_, h3⟩ := List.append_inj' e rfl
                obtain rfl : y' = y := by simpa using h3
                exact absurd (by rw [hy']; omega) hy
    · obtain ⟨h1, h2, _⟩ := spn_prefix (k := k) h
      exact ⟨h1, h2⟩

/-- The common spans, run by run. -/
def bothOf (H' : Int → Bool) (p : List (Int × Int)) : List (Int × Int) := p.flatMap fun x => spn H' x.1 (x.2 + 1 - x.1).toNat
theorem bothOf_snoc (H' : Int → Bool) (p : List (Int × Int)) (x : Int × Int) : bothOf H' (p ++ [x]) = bothOf H' p ++ spn H' x.1 (x.2 + 1 - x.1).toNat := by simp [bothOf, List.flatMap_append]
theorem both_eq (H H' : Int → Bool) (lo : Int) (k : Nat) : bothOf H' (spn H lo k) = spn (andH H H') lo k ∧ ∀ (pre : List (Int × Int)) (x : Int × Int), pre ++ [x] = spn H lo k → ∀ j : Nat, x.1 + j ≤ x.2 + 1 → bothOf H' pre ++ spn H' x.1 j = spn (andH H H') lo ((x.1 - lo).toNat + j) := by
  induction k using Nat.strongRecOn with
  | _ k ih =>
    have part : ∀ (pre : List (Int × Int)) (x : Int × Int), pre ++ [x] = spn H lo k → ∀ j : Nat, x.1 + j ≤ x.2 + 1 → bothOf H' pre ++ spn H' x.1 j = spn (andH H H') lo ((x.1 - lo).toNat + j) := by
      intro pre x hp j hj
      obtain ⟨p1, p2, p3, p4, p5, p6⟩ := spn_prefix hp
      have hi := (ih (x.1 - lo).toNat (by omega)).1
      rw [← p1] at hi
      rw [hi, spn_break (andH H H') lo (x.1 - lo).toNat (by
        rcases p2 with p2 | p2
        · left; omega
        · right; rw [show lo + ((x.1 - lo).toNat : Int) - 1 = x.1 - 1 by omega]; simp [andH, p2])]
      rw [show lo + ((x.1 - lo).toNat : Int) = x.1 by omega]
      congr 1
      exact spn_congr fun m h1 h2 => by simp [andH, p6 m h1 (by omega)]
    refine ⟨?_, part⟩
    have hg := gap_inv H lo k
    rcases list_cases (spn H lo k) with e | ⟨pre, x, e⟩
    · rw [e] at hg ⊢
      show [] = _
      have := spn_gap (andH H H') lo 0 k (fun m h1 h2 => by
        have := hg.none m (by show lo ≤ m; omega) (by omega)
        simp [andH, this])
      rw [Nat.zero_add] at this
      rw [this]; rfl
    · have hp := part pre x e.symm (x.2 + 1 - x.1).toNat
      obtain ⟨p1, p2, p3, p4, p5, p6⟩ := spn_prefix e.symm
      rw [e, bothOf_snoc, hp (by omega)]
      rw [e, gapsAt_snoc] at hg
      have := spn_gap (andH H H') lo ((x.1 - lo).toNat + (x.2 + 1 - x.1).toNat) (k - ((x.1 - lo).toNat + (x.2 + 1 - x.1).toNat)) (fun m h1 h2 => by
        have := hg.none m (by show x.2 + 1 ≤ m; omega) (by omega)
        simp [andH, this])
      rw [show (x.1 - lo).toNat + (x.2 + 1 - x.1).toNat + (k - ((x.1 - lo).toNat + (x.2 + 1 - x.1).toNat)) = k by omega] at this
      exact this.symm
end Go.Proofs.YtcdodfehnkgjdaaGreatDoor

/- Plain mathematics: what the spans of a set are: in order, apart, and all of it. -/
namespace Go.Proofs.YtcdodfehnkgjdaaGreatDoor

/-- A minute is in one of the spans. -/
def inS (l : List (Int × Int)) (m : Int) : Bool := l.any fun x => decide (x.1 ≤ m) && decide (m ≤ x.2)
theorem inS_iff (l : List (Int × Int)) (m : Int) : inS l m = true ↔ ∃ x ∈ l, x.1 ≤ m ∧ m ≤ x.2 := by simp [inS]
theorem inS_false (l : List (Int × Int)) (m : Int) : inS l m = false ↔ ∀ x ∈ l, ¬ (x.1 ≤ m ∧ m ≤ x.2) := by
  rw [← Bool.not_eq_true, inS_iff]
  simp
theorem mem_more {l : List (Int × Int)} {m : Int} (h : ∀ y ∈ l, y.1 ≤ y.2 ∧ y.2 < m) (n : Int) : (∃ x ∈ more l m, x.1 ≤ n ∧ n ≤ x.2) ↔ ((∃ x ∈ l, x.1 ≤ n ∧ n ≤ x.2) ∨ n = m) := by
  rcases list_cases l with rfl | ⟨i, x, rfl⟩
  · rw [more_empty]
    simp
    omega
  · have hx := h x (by simp)
    rw [more_snoc]
    split
    · rename_i e
      constructor
      · rintro ⟨y, hy, y1, y2⟩
        rcases List.mem_append.1 hy with hy | hy
        · exact .inl ⟨y, List.mem_append.2 (.inl hy), y1, y2⟩
        · simp at hy
          subst hy
          simp at y1 y2
          by_cases c : n = m
          · exact .inr c
          · exact .inl ⟨x, by simp, y1, by omega⟩
      · rintro (⟨y, hy, y1, y2⟩ | rfl)
        · rcases List.mem_append.1 hy with hy | hy
          · exact ⟨y, List.mem_append.2 (.inl hy), y1, y2⟩
          · simp at hy
            subst hy
            exact ⟨(y.1, m), by simp, y1, by simp; omega⟩
        · exact ⟨(x.1, n), by simp, by simp; omega, by simp⟩
    · constructor
      · rintro ⟨y, hy, y1, y2⟩
        rcases List.mem_append.1 hy with hy | hy
        · exact .inl ⟨y, hy, y1, y2⟩
        · simp at hy
          subst hy
          simp at y1 y2
          exact .inr (by omega)
      · rintro (⟨y, hy, y1, y2⟩ | rfl)
        · exact ⟨y, List.mem_append.2 (.inl hy), y1, y2⟩
        · exact ⟨(n, n), by simp, by simp, by simp⟩
/-- The spans have just the minutes of the set. -/
theorem mem_spn (H : Int → Bool) (lo : Int) : ∀ k : Nat, ∀ m, (∃ x ∈ spn H lo k, x.1 ≤ m ∧ m ≤ x.2) ↔ (lo ≤ m ∧ m < lo + k ∧ H m = true)
  | 0, m => by simp [spn]; omega
  | k + 1, m => by
    have ih := mem_spn H lo k m
    unfold spn
    split
    · rename_i hH
      rw [mem_more (fun y hy => ⟨(spn_in H lo k y hy).2.1, (spn_in H lo k y hy).2.2.1⟩), ih]
      constructor
      · rintro (⟨h1, h2, h3⟩ | rfl)
        · exact ⟨h1, by omega, h3⟩
        · exact ⟨by omega, by omega, hH⟩
      · rintro ⟨h1, h2, h3⟩
        by_cases c : m = lo + k
        · exact .inr c
        · exact .inl ⟨h1, by omega, h3⟩
    · rename_i hH
      rw [ih]
      constructor
      · rintro ⟨h1, h2, h3⟩
        exact ⟨h1, by omega, h3⟩
      · rintro ⟨h1, h2, h3⟩
        refine ⟨h1, ?_, h3⟩
        by_cases c : m = lo + k
        · subst c; exact absurd h3 hH
        · omega
theorem inS_spn (H : Int → Bool) (lo : Int) (k : Nat) (m : Int) (h1 : lo ≤ m) (h2 : m < lo + k) : inS (spn H lo k) m = H m := by
  cases h : H m with
  | true => exact (inS_iff _ _).2 ((mem_spn H lo k m).2 ⟨h1, h2, h⟩)
  | false =>
    cases h' : inS (spn H lo k) m with
    | false => rfl
    | true =>
      have := ((mem_spn H lo k m).1 ((inS_iff _ _).1 h')).2.2
      rw [h] at this
      cases this

/-- In order, and apart. -/
def ApartL (l : List (Int × Int)) : Prop := ∀ (i : Nat) (x : Int × Int), l[i]? = some x → x.1 ≤ x.2 ∧ (0 < i → ∃ y, l[i - 1]? = some y ∧ y.2 + 2 ≤ x.1)
theorem ApartL.nil : ApartL [] := fun i x h => by simp at h
theorem ApartL.init {i : List (Int × Int)} {x : Int × Int} (h : ApartL (i ++ [x])) : ApartL i := fun n z hz => by
  have hn := (List.getElem?_eq_some_iff.1 hz).1
  obtain ⟨h1, h2⟩ := h n z (by rw [List.getElem?_append_left hn]; exact hz)
  refine ⟨h1, fun h0 => ?_⟩
  obtain ⟨y, hy, h3⟩ := h2 h0
  rw [List.getElem?_append_left (by omega)] at hy
  exact ⟨y, hy, h3⟩
theorem ApartL.snoc {i : List (Int × Int)} {x : Int × Int} (h : ApartL i) (hx : x.1 ≤ x.2) (hl : ∀ j y, i = j ++ [y] → y.2 + 2 ≤ x.1) : ApartL (i ++ [x]) := fun n z hz => by
  by_cases hn : n < i.length
  · rw [List.getElem?_append_left hn] at hz
    obtain ⟨h1, h2⟩ := h n z hz
    refine ⟨h1, fun h0 => ?_⟩
    obtain ⟨y, hy, h3⟩ := h2 h0
    exact ⟨y, by rw [List.getElem?_append_left (by omega)]; exact hy, h3⟩
  · have hn' := (List.getElem?_eq_some_iff.1 hz).1
    obtain rfl : n = i.length := by simp at hn'; omega
    simp at hz
    subst hz
    refine ⟨hx, fun h0 => ?_⟩
    rcases list_cases i with rfl | ⟨j, y, rfl⟩
    · simp at h0
    · exact ⟨y, by simp, hl j y rfl⟩
theorem ApartL.last {i : List (Int × Int)} {x y : Int × Int} (h : ApartL (i ++ [x] ++ [y])) : x.2 + 2 ≤ y.1 := by
  obtain ⟨_, h2⟩ := h (i.length + 1) y (by simp)
  obtain ⟨z, hz, h3⟩ := h2 (by omega)
  simp at hz
  subst hz
  exact h3
theorem apart_spn (H : Int → Bool) (lo : Int) : ∀ k : Nat, ApartL (spn H lo k)
  | 0 => ApartL.nil
  | k + 1 => by
    have ih := apart_spn H lo k
    unfold spn
    split
    · rcases list_cases (spn H lo k) with e | ⟨i, x, e⟩
      · rw [e, more_empty]
        exact ApartL.nil.snoc (i := []) (Int.le_refl _) (fun j y hy => by simp at hy)
      · have hx := spn_in H lo k x (by rw [e]; simp)
        have h1 := hx.2.1
        have h2 := hx.2.2.1
        rw [e] at ih
        rw [e, more_snoc]
        split
        · refine ih.init.snoc (by show x.1 ≤ lo + (k : Int); omega) fun j y hy => ?_
          subst hy
          exact ih.last
        · refine ih.snoc (Int.le_refl _) fun j y hy => ?_
          obtain ⟨_, hy⟩ := List.append_inj' hy rfl
          obtain rfl : x = y := by simpa using hy
          show x.2 + 2 ≤ lo + (k : Int)
          omega
    · exact ih
/-- There are no more spans than every other minute. -/
theorem spn_half (H : Int → Bool) (lo : Int) : ∀ k : Nat, 2 * (spn H lo k).length ≤ k + 1 ∧ ((k = 0 ∨ H (lo + k - 1) = false) → 2 * (spn H lo k).length ≤ k)
  | 0 => by simp [spn]
  | k + 1 => by
    obtain ⟨h1, h2⟩ := spn_half H lo k
    rw [show lo + ((k + 1 : Nat) : Int) - 1 = lo + k by omega]
    unfold spn
    split
    · rename_i hH
      refine ⟨?_, fun h => by rcases h with h | h; omega; rw [hH] at h; cases h⟩
      rcases k with _ | k
      · simp [spn, more_empty]
      · cases hk : H (lo + ((k + 1 : Nat) : Int) - 1) with
        | true =>
          obtain ⟨i, y, e, hy⟩ := spn_last (H := H) (lo := lo) (k := k) (by rw [show lo + (k : Int) = lo + ((k + 1 : Nat) : Int) - 1 by omega]; exact hk)
          rw [e, more_snoc, if_pos (by omega)]
          rw [e] at h1
          simp at h1 ⊢
          omega
        | false =>
          have h3 := h2 (.inr hk)
          rcases list_cases (spn H lo (k + 1)) with e | ⟨i, y, e⟩
          · rw [e, more_empty]; simp
          · rw [e] at h3 ⊢
            rw [more_snoc]
            split
            · simp at h3 ⊢; omega
            · simp at h3 ⊢; omega
    · exact ⟨by omega, fun _ => h1⟩
theorem cntH_sum (H : Int → Bool) (lo : Int) : ∀ k : Nat, tot (spn H lo k) + tot (spn (notH H) lo k) = k
  | 0 => rfl
  | k + 1 => by
    have ih := cntH_sum H lo k
    unfold spn
    cases h : H (lo + k) with
    | true =>
      rw [if_pos rfl, if_neg (by simp [notH, h]), tot_more]
      omega
    | false =>
      rw [if_neg (by simp), if_pos (by simp [notH, h]), tot_more]
      omega
/-- The first span. -/
theorem spn_first {H : Int → Bool} {lo : Int} : ∀ {k : Nat} {x : Int × Int} {l : List (Int × Int)}, spn H lo k = x :: l → H x.1 = true ∧ lo ≤ x.1 ∧ x.1 < lo + k ∧ ∀ m, lo ≤ m → m < x.1 → H m = false
  | 0, x, l, h => by simp [spn] at h
  | k + 1, x, l, h => by
    unfold spn at h
    split at h
    · rename_i hH
      rcases list_cases (spn H lo k) with e | ⟨i, y, e⟩
      · rw [e, more_empty] at h
        obtain ⟨rfl, -⟩ := List.cons.inj h
        exact ⟨hH, by show lo ≤ lo + (k : Int); omega, by show lo + (k : Int) < lo + ((k + 1 : Nat) : Int); omega, fun m h1 h2 => by
          cases hm : H m with
          | false => rfl
          | true =>
            have h2' : m < lo + (k : Int) := h2
            obtain ⟨z, hz, _⟩ := (mem_spn H lo k m).2 ⟨h1, h2', hm⟩
            rw [e] at hz; simp at hz⟩
      · have key : ∃ x' l', spn H lo k = x' :: l' ∧ x'.1 = x.1 := by
          rw [e, more_snoc] at h
          rcases i with _ | ⟨z, i⟩
          · split at h
            · obtain ⟨rfl, -⟩ := List.cons.inj h
              exact ⟨y, [], by rw [e]; rfl, rfl⟩
            · obtain ⟨rfl, -⟩ := List.cons.inj h
              exact ⟨y, [], by rw [e]; rfl, rfl⟩
          · split at h
            · obtain ⟨rfl, -⟩ := List.cons.inj h
              exact ⟨z, i ++ [y], by rw [e]; rfl, rfl⟩
            · obtain ⟨rfl, -⟩ := List.cons.inj h
              exact ⟨z, i ++ [y], by rw [e]; rfl, rfl⟩
        obtain ⟨x', l', hx, ex⟩ := key
        obtain ⟨h1, h2, h3, h4⟩ := spn_first hx
        rw [ex] at h1 h2 h3 h4
        exact ⟨h1, h2, by omega, h4⟩
    · obtain ⟨h1, h2, h3, h4⟩ := spn_first h
      exact ⟨h1, h2, by omega, h4⟩
end Go.Proofs.YtcdodfehnkgjdaaGreatDoor

/- Plain mathematics of a union: each turn once; spans joined; spans that lie apart are told by their minutes. -/
namespace Go.Proofs.YtcdodfehnkgjdaaGreatDoor

/-! Each turn once. -/
def addT (out : List (Int × Int × Int)) (t : Int × Int × Int) : List (Int × Int × Int) := if t ∈ out then out else out ++ [t]
def onceL (l : List (Int × Int × Int)) : List (Int × Int × Int) := l.foldl addT []
theorem onceL_snoc (l : List (Int × Int × Int)) (t : Int × Int × Int) : onceL (l ++ [t]) = addT (onceL l) t := by simp [onceL, List.foldl_append]
theorem mem_addT {out : List (Int × Int × Int)} {t x : Int × Int × Int} : x ∈ addT out t ↔ x ∈ out ∨ x = t := by
  unfold addT
  split
  · rename_i h
    constructor
    · exact .inl
    · rintro (h' | rfl)
      · exact h'
      · exact h
  · simp
theorem foldl_addT {x : Int × Int × Int} : ∀ (l out : List (Int × Int × Int)), x ∈ l.foldl addT out ↔ x ∈ out ∨ x ∈ l
  | [], out => by simp
  | t :: l, out => by
    rw [List.foldl_cons, foldl_addT l (addT out t), mem_addT, List.mem_cons, or_assoc]
theorem mem_onceL {l : List (Int × Int × Int)} {x : Int × Int × Int} : x ∈ onceL l ↔ x ∈ l := by
  unfold onceL
  rw [foldl_addT]
  simp
theorem foldl_addT_len : ∀ (l out : List (Int × Int × Int)), (l.foldl addT out).length ≤ out.length + l.length
  | [], out => Nat.le_refl _
  | t :: l, out => by
    have h := foldl_addT_len l (addT out t)
    have : (addT out t).length ≤ out.length + 1 := by
      unfold addT
      split
      · omega
      · simp
    rw [List.foldl_cons, List.length_cons]
    omega
theorem onceL_len (l : List (Int × Int × Int)) : (onceL l).length ≤ l.length := by
  have := foldl_addT_len l []
  simpa [onceL] using this

/-! Spans joined. -/
/-- One span more, which begins no earlier than the last. -/
def joinL (out : List (Int × Int)) (x : Int × Int) : List (Int × Int) :=
  match out.getLast? with
  | none => [x]
  | some y => if x.1 ≤ y.2 + 1 then out.dropLast ++ [(y.1, max y.2 x.2)] else out ++ [x]
theorem joinL_nil (x : Int × Int) : joinL [] x = [x] := rfl
theorem joinL_snoc (i : List (Int × Int)) (y x : Int × Int) : joinL (i ++ [y]) x = if x.1 ≤ y.2 + 1 then i ++ [(y.1, max y.2 x.2)] else i ++ [y] ++ [x] := by
  unfold joinL
  simp
/-- In order of their first minutes, and not empty. -/
def Sorted1 (l : List (Int × Int)) : Prop := (∀ x ∈ l, x.1 ≤ x.2) ∧ ∀ (i j : Nat) (x y : Int × Int), l[i]? = some x → l[j]? = some y → i ≤ j → x.1 ≤ y.1
theorem Sorted1.init {l : List (Int × Int)} {x : Int × Int} (h : Sorted1 (l ++ [x])) : Sorted1 l :=
  ⟨fun y hy => h.1 y (List.mem_append.2 (.inl hy)), fun i j a b hi hj hij => h.2 i j a b (by rw [List.getElem?_append_left (List.getElem?_eq_some_iff.1 hi).1]; exact hi) (by rw [List.getElem?_append_left (List.getElem?_eq_some_iff.1 hj).1]; exact hj) hij⟩
theorem Sorted1.last {l : List (Int × Int)} {x y : Int × Int} (h : Sorted1 (l ++ [x])) (hy : y ∈ l) : y.1 ≤ x.1 := by
  obtain ⟨i, hi⟩ := List.mem_iff_getElem?.1 hy
  have hl := (List.getElem?_eq_some_iff.1 hi).1
  exact h.2 i l.length y x (by rw [List.getElem?_append_left hl]; exact hi) (by simp) (Nat.le_of_lt hl)
theorem inS_app (a b : List (Int × Int)) (m : Int) : inS (a ++ b) m = (inS a m || inS b m) := by simp [inS]
theorem inS_one (x : Int × Int) (m : Int) : inS [x] m = (decide (x.1 ≤ m) && decide (m ≤ x.2)) := by simp [inS]
/-- What joining leaves: the same minutes, apart; and the last begins with one of them. -/
theorem joined_is : ∀ (n : Nat) (l : List (Int × Int)), l.length = n → Sorted1 l → ApartL (l.foldl joinL []) ∧ (∀ m, inS (l.foldl joinL []) m = inS l m) ∧ (∀ i y, l.foldl joinL [] = i ++ [y] → ∃ z ∈ l, y.1 = z.1)
  | 0, l, hn, _ => by
    obtain rfl : l = [] := List.eq_nil_of_length_eq_zero hn
    exact ⟨ApartL.nil, fun _ => rfl, fun i y h => by simp at h⟩
  | n + 1, l, hn, h => by
    rcases list_cases l with rfl | ⟨l, x, rfl⟩
    · cases hn
    · obtain ⟨k1, k2, k3⟩ := joined_is n l (by simpa using hn) h.init
      have hx : x.1 ≤ x.2 := h.1 x (by simp)
      rw [List.foldl_append, List.foldl_cons, List.foldl_nil]
      rcases list_cases (l.foldl joinL []) with e | ⟨i, y, e⟩
      · rw [e] at k2 ⊢
        rw [joinL_nil]
        refine ⟨ApartL.snoc (i := []) ApartL.nil hx (fun j y h => by simp at h), fun m => ?_, fun i y h => ?_⟩
        · rw [inS_app, ← k2 m]
          simp [inS]
        · obtain rfl : y = x := by
            have := congrArg List.getLast? h
            simpa using this.symm
          exact ⟨_, by simp, rfl⟩
      · obtain ⟨z, hz, hyz⟩ := k3 i y e
        rw [e] at k1 k2 ⊢
        have hy : y.1 ≤ y.2 := (k1 i.length y (by simp)).1
        have hle : y.1 ≤ x.1 := by rw [hyz]; exact h.last hz
        rw [joinL_snoc]
        split
        · rename_i hj
          refine ⟨ApartL.snoc k1.init (by show y.1 ≤ max y.2 x.2; omega) (fun j q hq => ?_), fun m => ?_, fun i' y' h' => ?_⟩
          · subst hq
            exact k1.last
          · rw [inS_app l, ← k2 m, inS_app, inS_app, Bool.or_assoc, inS_one, inS_one, inS_one]
            congr 1
            rw [Bool.eq_iff_iff]
            simp only [Bool.and_eq_true, Bool.or_eq_true, decide_eq_true_eq]
            constructor
            · rintro ⟨a, b⟩
              omega
            · rintro (⟨a, b⟩ | ⟨a, b⟩) <;> omega
          · obtain ⟨-, h2⟩ := List.append_inj' h' rfl
            cases h2
            exact ⟨z, List.mem_append.2 (.inl hz), hyz⟩
        · rename_i hj
          refine ⟨ApartL.snoc k1 hx (fun j q hq => ?_), fun m => ?_, fun i' y' h' => ?_⟩
          · obtain ⟨-, h2⟩ := List.append_inj' hq rfl
            cases h2
            omega
          · rw [inS_app, inS_app l, k2 m]
          · obtain ⟨-, h2⟩ := List.append_inj' h' rfl
            cases h2
            exact ⟨_, by simp, rfl⟩

/-! Spans that lie apart are told by their minutes. -/
theorem ApartL.tail {x : Int × Int} {l : List (Int × Int)} (h : ApartL (x :: l)) : ApartL l ∧ x.1 ≤ x.2 ∧ ∀ y ∈ l, x.2 + 2 ≤ y.1 := by
  have h0 := (h 0 x rfl).1
  have step : ∀ (i : Nat) (y : Int × Int), l[i]? = some y → x.2 + 2 ≤ y.1 := by
    intro i
    induction i with
    | zero =>
      intro y hy
      obtain ⟨z, hz, hl⟩ := (h 1 y (by simpa using hy)).2 (by omega)
      simp at hz
      subst hz
      exact hl
    | succ i ih =>
      intro y hy
      obtain ⟨z, hz, hl⟩ := (h (i + 1 + 1) y (by simpa using hy)).2 (by omega)
      have hz' : l[i]? = some z := by simpa using hz
      have := ih z hz'
      have := (h (i + 1) z (by simpa using hz')).1
      omega
  refine ⟨fun i y hy => ?_, h0, fun y hy => ?_⟩
  · obtain ⟨a, b⟩ := h (i + 1) y (by simpa using hy)
    refine ⟨a, fun hi => ?_⟩
    obtain ⟨z, hz, hl⟩ := b (by omega)
    obtain ⟨j, rfl⟩ : ∃ j, i = j + 1 := ⟨i - 1, by omega⟩
    exact ⟨z, by simpa using hz, hl⟩
  · obtain ⟨i, hi⟩ := List.mem_iff_getElem?.1 hy
    exact step i y hi
theorem inS_cons (x : Int × Int) (l : List (Int × Int)) (m : Int) : inS (x :: l) m = ((decide (x.1 ≤ m) && decide (m ≤ x.2)) || inS l m) := by simp [inS]
theorem apart_unique : ∀ (a b : List (Int × Int)), ApartL a → ApartL b → (∀ m, inS a m = inS b m) → a = b
  | [], [], _, _, _ => rfl
  | [], y :: b, _, hb, h => by
    obtain ⟨_, h1, _⟩ := hb.tail
    have := h y.1
    rw [inS_cons] at this
    simp [inS, h1] at this
  | x :: a, [], ha, _, h => by
    obtain ⟨_, h1, _⟩ := ha.tail
    have := h x.1
    rw [inS_cons] at this
    simp [inS, h1] at this
  | x :: a, y :: b, ha, hb, h => by
    obtain ⟨a1, a2, a3⟩ := ha.tail
    obtain ⟨b1, b2, b3⟩ := hb.tail
    have low : ∀ {x : Int × Int} {l : List (Int × Int)} {m : Int}, (∀ y ∈ l, x.2 + 2 ≤ y.1) → m ≤ x.2 + 1 → inS l m = false := by
      intro x l m hl hm
      rw [inS_false]
      intro y hy hh
      have := hl y hy
      omega
    have iff : ∀ m, ((x.1 ≤ m ∧ m ≤ x.2) ∨ inS a m = true) ↔ ((y.1 ≤ m ∧ m ≤ y.2) ∨ inS b m = true) := fun m => by
      have := h m
      rw [inS_cons, inS_cons, Bool.eq_iff_iff] at this
      simpa using this
    have mem_ge : ∀ {x : Int × Int} {l : List (Int × Int)} {m : Int}, (∀ y ∈ l, x.2 + 2 ≤ y.1) → inS l m = true → x.2 + 2 ≤ m := by
      intro x l m hl hm
      obtain ⟨z, hz, h1, h2⟩ := (inS_iff _ _).1 hm
      have := hl z hz
      omega
    have e1 : x.1 = y.1 := by
      have p := (iff x.1).1 (.inl ⟨Int.le_refl _, a2⟩)
      have q := (iff y.1).2 (.inl ⟨Int.le_refl _, b2⟩)
      have p' : y.1 ≤ x.1 := by
        rcases p with p | p
        · exact p.1
        · have := mem_ge b3 p; omega
      have q' : x.1 ≤ y.1 := by
        rcases q with q | q
        · exact q.1
        · have := mem_ge a3 q; omega
      omega
    have e2 : x.2 = y.2 := by
      have le : ∀ {x y : Int × Int} {a b : List (Int × Int)}, x.1 ≤ x.2 → y.1 ≤ y.2 → x.1 = y.1 → (∀ z ∈ a, x.2 + 2 ≤ z.1) → (∀ z ∈ b, y.2 + 2 ≤ z.1) → (∀ m, ((x.1 ≤ m ∧ m ≤ x.2) ∨ inS a m = true) ↔ ((y.1 ≤ m ∧ m ≤ y.2) ∨ inS b m = true)) → x.2 ≤ y.2 := by
        intro x y a b hx hy he ha hb hi
        rcases Int.lt_or_le y.2 x.2 with c | c
        · exfalso
          rcases (hi (y.2 + 1)).1 (.inl ⟨by omega, by omega⟩) with q | q
          · omega
          · have := mem_ge hb q; omega
        · exact c
      have q1 := le a2 b2 e1 a3 b3 iff
      have q2 := le b2 a2 e1.symm b3 a3 (fun m => (iff m).symm)
      omega
    have exy : x = y := Prod.ext e1 e2
    subst exy
    rw [apart_unique a b a1 b1 (fun m => ?_)]
    rw [Bool.eq_iff_iff]
    have := iff m
    constructor
    · intro hm
      have hge := mem_ge a3 hm
      rcases this.1 (.inr hm) with q | q
      · omega
      · exact q
    · intro hm
      have hge := mem_ge b3 hm
      rcases this.2 (.inr hm) with q | q
      · omega
      · exact q
end Go.Proofs.YtcdodfehnkgjdaaGreatDoor

/- Plain mathematics of the specification's way to join spans: always the one that begins first, grown as far as it can. -/
namespace Go.Proofs.YtcdodfehnkgjdaaGreatDoor

/-- One look at all spans: the end grows by each that touches. -/
def hiStep (h : Int) (x : Int × Int) : Int := if x.1 ≤ h + 1 then max h x.2 else h
def hiPass (l : List (Int × Int)) (h : Int) : Int := l.foldl hiStep h
def hiN (l : List (Int × Int)) : Nat → Int → Int
  | 0, h => h
  | n + 1, h => hiPass l (hiN l n h)
theorem hiStep_ge (h : Int) (x : Int × Int) : h ≤ hiStep h x := by
  unfold hiStep
  split <;> omega
theorem foldl_hi_ge : ∀ (l : List (Int × Int)) (h : Int), h ≤ l.foldl hiStep h
  | [], _ => Int.le_refl _
  | x :: l, h => Int.le_trans (hiStep_ge h x) (foldl_hi_ge l _)
theorem hiPass_ge (l : List (Int × Int)) (h : Int) : h ≤ hiPass l h := foldl_hi_ge l h
/-- What lies between the first minute and the end is told. -/
def RunOk (l : List (Int × Int)) (lo h : Int) : Prop := lo ≤ h ∧ ∀ m, lo ≤ m → m ≤ h → inS l m = true
theorem hiStep_ok {l : List (Int × Int)} {lo h : Int} {x : Int × Int} (hx : x ∈ l) (hr : RunOk l lo h) : RunOk l lo (hiStep h x) := by
  refine ⟨Int.le_trans hr.1 (hiStep_ge h x), fun m h1 h2 => ?_⟩
  rcases Int.lt_or_le h m with c | c
  · unfold hiStep at h2
    split at h2
    · rename_i hc
      exact (inS_iff _ _).2 ⟨x, hx, by omega, by omega⟩
    · omega
  · exact hr.2 m h1 c
theorem foldl_hi_ok {l : List (Int × Int)} {lo : Int} : ∀ (k : List (Int × Int)) (h : Int), (∀ x ∈ k, x ∈ l) → RunOk l lo h → RunOk l lo (k.foldl hiStep h)
  | [], _, _, hr => hr
  | x :: k, _, hk, hr => foldl_hi_ok k _ (fun y hy => hk y (List.mem_cons_of_mem _ hy)) (hiStep_ok (hk x (List.mem_cons_self ..)) hr)
theorem hiPass_ok {l : List (Int × Int)} {lo h : Int} (hr : RunOk l lo h) : RunOk l lo (hiPass l h) := foldl_hi_ok l h (fun _ hx => hx) hr
theorem hiN_ok {l : List (Int × Int)} {lo h : Int} (hr : RunOk l lo h) : ∀ n, RunOk l lo (hiN l n h)
  | 0 => hr
  | n + 1 => hiPass_ok (hiN_ok hr n)
/-- An end that no span outgrows. -/
def Closed (l : List (Int × Int)) (h : Int) : Prop := ∀ x ∈ l, x.1 ≤ h + 1 → x.2 ≤ h
theorem foldl_hi_has : ∀ (l : List (Int × Int)) (h : Int) (x : Int × Int), x ∈ l → x.1 ≤ h + 1 → x.2 ≤ l.foldl hiStep h
  | [], _, _, hx, _ => by cases hx
  | y :: l, h, x, hx, hc => by
    rcases List.mem_cons.1 hx with rfl | hx
    · refine Int.le_trans ?_ (foldl_hi_ge l _)
      show x.2 ≤ hiStep h x
      unfold hiStep
      rw [if_pos hc]
      omega
    · exact foldl_hi_has l _ x hx (by have := hiStep_ge h y; omega)
theorem closed_of_still {l : List (Int × Int)} {h : Int} (hs : hiPass l h = h) : Closed l h := fun x hx hc => by
  have := foldl_hi_has l h x hx hc
  unfold hiPass at hs
  omega
theorem still_of_closed {l : List (Int × Int)} {h : Int} (hc : Closed l h) : hiPass l h = h := by
  have key : ∀ (k : List (Int × Int)), (∀ x ∈ k, x ∈ l) → k.foldl hiStep h = h := by
    intro k
    induction k with
    | nil => intro _; rfl
    | cons x k ih =>
      intro hk
      have : hiStep h x = h := by
        unfold hiStep
        split
        · rename_i hx
          have := hc x (hk x (List.mem_cons_self ..)) hx
          omega
        · rfl
      rw [List.foldl_cons, this]
      exact ih (fun y hy => hk y (List.mem_cons_of_mem _ hy))
  exact key l (fun _ hx => hx)
/-- How many spans end no later than h. -/
def cntE (l : List (Int × Int)) (h : Int) : Nat := (l.filter fun x => decide (x.2 ≤ h)).length
theorem cntE_le (l : List (Int × Int)) (h : Int) : cntE l h ≤ l.length := List.length_filter_le _ _
theorem cntE_mono : ∀ (l : List (Int × Int)) (h h' : Int), h ≤ h' → cntE l h ≤ cntE l h'
  | [], _, _, _ => Nat.le_refl _
  | x :: l, h, h', hh => by
    have ih := cntE_mono l h h' hh
    unfold cntE at ih ⊢
    by_cases c : x.2 ≤ h
    · have c' : x.2 ≤ h' := by omega
      simp [c, c']
      exact ih
    · by_cases c' : x.2 ≤ h'
      · simp [c, c']
        omega
      · simp [c, c']
        exact ih
theorem cntE_more : ∀ (l : List (Int × Int)) (h h' : Int) (x : Int × Int), h ≤ h' → x ∈ l → h < x.2 → x.2 ≤ h' → cntE l h + 1 ≤ cntE l h'
  | [], _, _, _, _, hx, _, _ => by cases hx
  | y :: l, h, h', x, hh, hx, h1, h2 => by
    have ih := cntE_mono l h h' hh
    rcases List.mem_cons.1 hx with rfl | hx
    · unfold cntE at ih ⊢
      have c : ¬ x.2 ≤ h := by omega
      simp [c, h2]
      exact ih
    · have ih2 := cntE_more l h h' x hh hx h1 h2
      unfold cntE at ih2 ⊢
      by_cases c : y.2 ≤ h
      · have c' : y.2 ≤ h' := by omega
        simp [c, c']
        omega
      · by_cases c' : y.2 ≤ h'
        · simp [c, c']
          omega
        · simp [c, c']
          omega
/-- Either nothing grows any more, or each look has passed one span more. -/
theorem hiN_grows (l : List (Int × Int)) (h : Int) : ∀ n : Nat, Closed l (hiN l n h) ∨ n ≤ cntE l (hiN l n h)
  | 0 => .inr (Nat.zero_le _)
  | n + 1 => by
    rcases hiN_grows l h n with hc | hc
    · left
      show Closed l (hiPass l (hiN l n h))
      rw [still_of_closed hc]
      exact hc
    · by_cases hcl : Closed l (hiN l n h)
      · left
        show Closed l (hiPass l (hiN l n h))
        rw [still_of_closed hcl]
        exact hcl
      · right
        obtain ⟨x, hx, h1, h2⟩ : ∃ x ∈ l, x.1 ≤ hiN l n h + 1 ∧ ¬ x.2 ≤ hiN l n h := by
          refine Classical.byContradiction fun hn => hcl fun x hx hle => Classical.byContradiction fun hh => hn ⟨x, hx, hle, hh⟩
        have := foldl_hi_has l (hiN l n h) x hx h1
        have := cntE_more l (hiN l n h) (hiPass l (hiN l n h)) x (hiPass_ge l _) hx (by omega) this
        show n + 1 ≤ cntE l (hiPass l (hiN l n h))
        omega
theorem hiN_closed (l : List (Int × Int)) (h : Int) : Closed l (hiN l l.length h) := by
  rcases hiN_grows l h l.length with hc | hc
  · exact hc
  · have e : cntE l (hiN l l.length h) = l.length := Nat.le_antisymm (cntE_le _ _) hc
    intro x hx _
    unfold cntE at e
    have := List.length_filter_eq_length_iff.1 e x hx
    simpa using this

/-- The first minute from a place on: 1048577 if there is none. -/
def loStep (from_ : Int) (lo : Int) (x : Int × Int) : Int := if from_ ≤ x.2 then min lo (max from_ x.1) else lo
def loMin (l : List (Int × Int)) (from_ : Int) : Int := l.foldl (loStep from_) 1048577
theorem loMin_is {from_ : Int} : ∀ (l : List (Int × Int)) (lo : Int), from_ ≤ lo → (∀ x ∈ l, x.1 ≤ x.2) →
    from_ ≤ l.foldl (loStep from_) lo ∧ l.foldl (loStep from_) lo ≤ lo ∧ (l.foldl (loStep from_) lo = lo ∨ inS l (l.foldl (loStep from_) lo) = true) ∧ (∀ m, from_ ≤ m → m < l.foldl (loStep from_) lo → inS l m = false)
  | [], lo, h, _ => ⟨h, Int.le_refl _, .inl rfl, fun m _ _ => rfl⟩
  | x :: l, lo, h, hv => by
    have hx := hv x (List.mem_cons_self ..)
    have h2 : from_ ≤ loStep from_ lo x := by unfold loStep; split <;> omega
    have h3 : loStep from_ lo x ≤ lo := by unfold loStep; split <;> omega
    obtain ⟨a, b, c, d⟩ := loMin_is l (loStep from_ lo x) h2 (fun y hy => hv y (List.mem_cons_of_mem _ hy))
    rw [List.foldl_cons]
    refine ⟨a, by omega, ?_, fun m h4 h5 => ?_⟩
    · rcases c with c | c
      · rw [c]
        unfold loStep
        split
        · rename_i hc
          rcases Int.lt_or_le (max from_ x.1) lo with k | k
          · right
            rw [inS_cons, show min lo (max from_ x.1) = max from_ x.1 by omega]
            have e1 : x.1 ≤ max from_ x.1 := by omega
            have e2 : max from_ x.1 ≤ x.2 := by omega
            simp [e1, e2]
          · left; omega
        · exact .inl rfl
      · right
        rw [inS_cons, c, Bool.or_true]
    · rw [inS_cons, d m h4 h5, Bool.or_false]
      have : m < loStep from_ lo x := by omega
      unfold loStep at this
      split at this
      · have : ¬ x.1 ≤ m := by omega
        simp [this]
      · have : ¬ m ≤ x.2 := by omega
        simp [this]
/-- What the specification has between two spans. -/
structure JoinIs (l out : List (Int × Int)) (from_ : Int) : Prop where
  apart : ApartL out
  same : ∀ m, m < from_ → inS out m = inS l m
  none : ∀ m, from_ ≤ m → inS out m = false
  last : ∀ i y, out = i ++ [y] → y.2 + 1 = from_ ∧ inS l from_ = false
theorem JoinIs.nil {l : List (Int × Int)} (h : ∀ x ∈ l, 0 ≤ x.1) : JoinIs l [] 0 :=
  ⟨ApartL.nil, fun m hm => by
    show false = _
    symm
    rw [inS_false]
    intro x hx hh
    have := h x hx
    omega, fun _ _ => rfl, fun i y h => by simp at h⟩
theorem JoinIs.next {l out : List (Int × Int)} {from_ : Int} (h : JoinIs l out from_) (hv : ∀ x ∈ l, x.1 ≤ x.2 ∧ x.2 ≤ 1048576) (hf : from_ ≤ 1048577) (hl : loMin l from_ ≤ 1048576) :
    JoinIs l (out ++ [(loMin l from_, hiN l l.length (loMin l from_))]) (hiN l l.length (loMin l from_) + 1) ∧ loMin l from_ ≤ hiN l l.length (loMin l from_) ∧ from_ ≤ loMin l from_ ∧ hiN l l.length (loMin l from_) ≤ 1048576 := by
  obtain ⟨a, b, c, d⟩ := loMin_is (from_ := from_) l 1048577 hf (fun x hx => (hv x hx).1)
  have e : l.foldl (loStep from_) 1048577 = loMin l from_ := rfl
  rw [e] at a b c d
  have c' : inS l (loMin l from_) = true := by rcases c with c | c; omega; exact c
  have hr : RunOk l (loMin l from_) (loMin l from_) := ⟨Int.le_refl _, fun m h1 h2 => by rw [show m = loMin l from_ by omega]; exact c'⟩
  obtain ⟨r1, r2⟩ := hiN_ok hr l.length
  have hc := hiN_closed l (loMin l from_)
  generalize loMin l from_ = lo at *
  generalize hiN l l.length lo = hi at *
  have hend : inS l (hi + 1) = false := by
    rw [inS_false]
    intro x hx hh
    have := hc x hx hh.1
    omega
  have hmx : hi ≤ 1048576 := by
    obtain ⟨x, hx, _, h2⟩ := (inS_iff _ _).1 (r2 hi r1 (Int.le_refl _))
    have := (hv x hx).2
    omega
  refine ⟨⟨ApartL.snoc h.apart r1 (fun j y hy => ?_), fun m hm => ?_, fun m hm => ?_, fun i y hy => ?_⟩, r1, a, hmx⟩
  · obtain ⟨h1, h2⟩ := h.last j y hy
    have : lo ≠ from_ := fun e => by rw [e, h2] at c'; cases c'
    show y.2 + 2 ≤ lo
    omega
  · rw [inS_app, inS_one]
    rcases Int.lt_or_le m from_ with k | k
    · rw [h.same m k]
      have : ¬ lo ≤ m := by omega
      simp [this]
    · rw [h.none m k, Bool.false_or]
      rcases Int.lt_or_le m lo with k2 | k2
      · rw [d m k k2]
        have : ¬ lo ≤ m := by omega
        simp [this]
      · rw [r2 m k2 (by omega)]
        have : m ≤ hi := by omega
        simp [k2, this]
  · rw [inS_app, inS_one, h.none m (by omega)]
    have : ¬ m ≤ hi := by omega
    simp [this]
  · obtain ⟨-, h2⟩ := List.append_inj' hy rfl
    cases h2
    exact ⟨rfl, hend⟩
theorem JoinIs.end_ {l out : List (Int × Int)} {from_ : Int} (h : JoinIs l out from_) (hv : ∀ x ∈ l, x.1 ≤ x.2 ∧ x.2 ≤ 1048576) (hf : from_ ≤ 1048577) (hl : 1048576 < loMin l from_) (m : Int) : inS out m = inS l m := by
  obtain ⟨a, b, c, d⟩ := loMin_is (from_ := from_) l 1048577 hf (fun x hx => (hv x hx).1)
  have e : l.foldl (loStep from_) 1048577 = loMin l from_ := rfl
  rw [e] at a b c d
  rcases Int.lt_or_le m from_ with k | k
  · exact h.same m k
  · rw [h.none m k]
    rcases Int.lt_or_le m (loMin l from_) with k2 | k2
    · rw [d m k k2]
    · symm
      rw [inS_false]
      intro x hx hh
      have := (hv x hx).2
      omega
end Go.Proofs.YtcdodfehnkgjdaaGreatDoor
