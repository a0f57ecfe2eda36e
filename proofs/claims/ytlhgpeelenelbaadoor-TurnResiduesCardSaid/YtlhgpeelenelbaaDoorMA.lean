/- Plain mathematics: sums; how many minutes two turns have in common in a row of as many as it takes until all comes again. -/
import Derived.Test.YtlhgpeelenelbaaDoorM2
import Derived.Test.YtlhgpeelenelbaaDoorB3
import Derived.Test.YtlhgpeelenelbaaDoorL1
import Derived.Test.YtlhgpeelenelbaaDoorA6
namespace Go.Proofs.YtlhgpeelenelbaaDoor

/-- The sum of the first numbers of a sequence. -/
def sm (f : Nat → Int) : Nat → Int
  | 0 => 0
  | n + 1 => sm f n + f n
theorem sm_congr {f g : Nat → Int} : ∀ n : Nat, (∀ i, i < n → f i = g i) → sm f n = sm g n
  | 0, _ => rfl
  | n + 1, h => by
    show sm f n + f n = sm g n + g n
    rw [sm_congr n fun i hi => h i (by omega), h n (by omega)]
theorem sm_zero {f : Nat → Int} : ∀ n : Nat, (∀ i, i < n → f i = 0) → sm f n = 0
  | 0, _ => rfl
  | n + 1, h => by
    show sm f n + f n = 0
    rw [sm_zero n fun i hi => h i (by omega), h n (by omega)]; rfl
theorem sm_plus (f g : Nat → Int) : ∀ n : Nat, sm (fun i => f i + g i) n = sm f n + sm g n
  | 0 => rfl
  | n + 1 => by
    show sm (fun i => f i + g i) n + (f n + g n) = sm f n + f n + (sm g n + g n)
    rw [sm_plus f g n]; omega
theorem sm_times (c : Int) (f : Nat → Int) : ∀ n : Nat, sm (fun i => c * f i) n = c * sm f n
  | 0 => by show (0 : Int) = c * 0; omega
  | n + 1 => by
    show sm (fun i => c * f i) n + c * f n = c * (sm f n + f n)
    rw [sm_times c f n, Int.mul_add]
theorem sm_swap (f : Nat → Nat → Int) (m : Nat) : ∀ n : Nat, sm (fun i => sm (f i) m) n = sm (fun j => sm (fun i => f i j) n) m
  | 0 => (sm_zero m fun _ _ => rfl).symm
  | n + 1 => by
    show sm (fun i => sm (f i) m) n + sm (f n) m = sm (fun j => sm (fun i => f i j) n + f n j) m
    rw [sm_swap f m n, sm_plus (fun j => sm (fun i => f i j) n) (f n) m]
theorem sm_prod (f g : Nat → Int) (m : Nat) : ∀ n : Nat, sm f n * sm g m = sm (fun i => sm (fun j => f i * g j) m) n
  | 0 => by show (0 : Int) * _ = 0; omega
  | n + 1 => by
    show (sm f n + f n) * sm g m = sm (fun i => sm (fun j => f i * g j) m) n + sm (fun j => f n * g j) m
    rw [← sm_prod f g m n, sm_times, Int.add_mul]
theorem sm_one {f : Nat → Int} {k : Nat} : ∀ n : Nat, k < n → f k = 1 → (∀ i, i < n → i ≠ k → f i = 0) → sm f n = 1
  | 0, h, _, _ => by omega
  | n + 1, h, h1, h0 => by
    show sm f n + f n = 1
    by_cases c : k = n
    · subst c
      rw [sm_zero k fun i hi => h0 i (by omega) (by omega), h1]; rfl
    · rw [sm_one n (by omega) h1 fun i hi hk => h0 i (by omega) hk, h0 n (by omega) (by omega)]; rfl
theorem sm_append (f : Nat → Int) (a : Nat) : ∀ b : Nat, sm f (a + b) = sm f a + sm (fun i => f (a + i)) b
  | 0 => by show sm f a = sm f a + 0; omega
  | b + 1 => by
    show sm f (a + b) + f (a + b) = sm f a + (sm (fun i => f (a + i)) b + f (a + b))
    rw [sm_append f a b]; omega
theorem sm_bd {f : Nat → Int} (h : ∀ i, 0 ≤ f i ∧ f i ≤ 1) : ∀ n : Nat, 0 ≤ sm f n ∧ sm f n ≤ n
  | 0 => ⟨Int.le_refl _, Int.le_refl _⟩
  | n + 1 => by
    have a := sm_bd h n
    have b := h n
    show 0 ≤ sm f n + f n ∧ sm f n + f n ≤ _
    omega

/-- 1 if a number divides another one, otherwise 0. -/
def dv (p x : Int) : Int := if x % p = 0 then 1 else 0
theorem dv_yes {p x : Int} (h : p ∣ x) : dv p x = 1 := if_pos (Int.emod_eq_zero_of_dvd h)
theorem dv_no {p x : Int} (h : ¬ p ∣ x) : dv p x = 0 := if_neg fun c => h (Int.dvd_of_emod_eq_zero c)
theorem dvd_small {p x : Int} (h : p ∣ x) (h1 : -p < x) (h2 : x < p) : x = 0 := by
  by_cases c : 0 < x
  · have := Int.le_of_dvd c h; omega
  · by_cases d : x < 0
    · have := Int.le_of_dvd (show 0 < -x by omega) (Int.dvd_neg.2 h); omega
    · omega

/-- 1 if an integer is in a turn, otherwise 0. -/
def iT (p f l n : Int) : Int := if (n - f) % p < l then 1 else 0
theorem iT_sum {p f l : Int} (h : TOk p f l) (n : Int) : iT p f l n = sm (fun i => dv p (n - (f + i))) l.toNat := by
  obtain ⟨p1, _, _, _, l1, l2⟩ := h
  have r0 := Int.emod_nonneg (n - f) (show p ≠ 0 by omega)
  have r1 := Int.emod_lt_of_pos (n - f) (show 0 < p by omega)
  have rq := Int.emod_add_mul_ediv (n - f) p
  have key : ∀ i : Nat, (i : Int) < l → p ∣ n - (f + i) → (i : Int) = (n - f) % p := by
    intro i hi hd
    have hd2 : p ∣ (n - f) % p - i := by
      obtain ⟨c, hc⟩ := hd
      exact ⟨c - (n - f) / p, by rw [Int.mul_sub]; omega⟩
    have := dvd_small hd2 (by omega) (by omega)
    omega
  unfold iT
  by_cases c : (n - f) % p < l
  · rw [if_pos c]
    refine (sm_one (k := ((n - f) % p).toNat) _ (by omega) ?_ ?_).symm
    · refine dv_yes ⟨(n - f) / p, ?_⟩
      rw [Int.toNat_of_nonneg r0]; omega
    · intro i hi hne
      exact dv_no fun hd => hne (by have := key i (by omega) hd; omega)
  · rw [if_neg c]
    refine (sm_zero _ fun i hi => dv_no fun hd => ?_).symm
    have := key i (by omega) hd
    omega

/-- What both periods divide, their least common multiple does. -/
theorem lcmF_dvd {pa pb x : Int} (ha : 1 ≤ pa) (hb : 1 ≤ pb) (h1 : pa ∣ x) (h2 : pb ∣ x) : lcmF pa pb ∣ x := by
  obtain ⟨X, Y, hg⟩ := bezout pb.toNat pa pb (by omega) (by omega) (Nat.le_refl _)
  obtain ⟨u, hu⟩ := Int.gcd_dvd_left (a := pa) (b := pb)
  have g1 := gcd_pos (b := pb) ha
  unfold lcmF
  generalize (Int.gcd pa pb : Int) = g at *
  have e : pa / g = u := by rw [hu, Int.mul_ediv_cancel_left _ (by omega)]
  rw [e]
  obtain ⟨c, hc⟩ := h1
  obtain ⟨d, hd⟩ := h2
  refine ⟨X * d + Y * c, ?_⟩
  have e1 : g * x = g * (u * pb * (X * d + Y * c)) := by
    have a1 : g * x = pa * X * (pb * d) + pb * Y * (pa * c) := by
      rw [← hd, ← hc, ← Int.add_mul, ← hg]
    have a2 : g * (u * pb * (X * d + Y * c)) = (g * u) * (pb * (X * d + Y * c)) := by grind
    rw [a1, a2, ← hu]; grind
  exact Int.eq_of_mul_eq_mul_left (by omega) e1

/-- In a row of as many integers as it takes until all comes again, just one has two given remainders, if they fit. -/
theorem crt_count {pa pb : Int} (ha : 1 ≤ pa) (hb : 1 ≤ pb) (s u v : Int) :
    sm (fun t => dv pa (s + t - u) * dv pb (s + t - v)) (lcmF pa pb).toNat = dv (Int.gcd pa pb) (u - v) := by
  have L1 := lcmF_pos ha hb
  have La := lcmF_dvd_left pa pb
  have Lb := lcmF_dvd_right pa pb
  by_cases hg : (Int.gcd pa pb : Int) ∣ u - v
  · rw [dv_yes hg]
    obtain ⟨n, n0, na, nb⟩ := crt pa pb u v ha hb (by obtain ⟨c, hc⟩ := hg; exact ⟨-c, by rw [Int.mul_neg]; omega⟩)
    have LD := fun x => @lcmF_dvd pa pb x ha hb
    generalize lcmF pa pb = L at *
    have r0 := Int.emod_nonneg (n - s) (show L ≠ 0 by omega)
    have r1 := Int.emod_lt_of_pos (n - s) (show 0 < L by omega)
    have rq := Int.emod_add_mul_ediv (n - s) L
    have ka : pa ∣ s + (n - s) % L - u := by
      have : s + (n - s) % L - u = (n - u) - L * ((n - s) / L) := by omega
      rw [this]; exact Int.dvd_sub na (Int.dvd_mul_of_dvd_left La)
    have kb : pb ∣ s + (n - s) % L - v := by
      have : s + (n - s) % L - v = (n - v) - L * ((n - s) / L) := by omega
      rw [this]; exact Int.dvd_sub nb (Int.dvd_mul_of_dvd_left Lb)
    refine sm_one (k := ((n - s) % L).toNat) _ (by omega) ?_ ?_
    · rw [Int.toNat_of_nonneg r0, dv_yes ka, dv_yes kb]; rfl
    · intro i hi hne
      by_cases c1 : pa ∣ s + i - u
      · by_cases c2 : pb ∣ s + i - v
        · exfalso
          have d1 : pa ∣ (i : Int) - (n - s) % L := by
            have e : (i : Int) - (n - s) % L = (s + i - u) - (s + (n - s) % L - u) := by omega
            rw [e]; exact Int.dvd_sub c1 ka
          have d2 : pb ∣ (i : Int) - (n - s) % L := by
            have e : (i : Int) - (n - s) % L = (s + i - v) - (s + (n - s) % L - v) := by omega
            rw [e]; exact Int.dvd_sub c2 kb
          have := dvd_small (LD _ d1 d2) (by omega) (by omega)
          omega
        · rw [dv_no c2]; omega
      · rw [dv_no c1]; omega
  · rw [dv_no hg]
    refine sm_zero _ fun i _ => ?_
    by_cases c1 : pa ∣ s + i - u
    · by_cases c2 : pb ∣ s + i - v
      · exfalso
        apply hg
        have e : u - v = (s + i - v) - (s + i - u) := by omega
        rw [e]
        exact Int.dvd_sub (Int.dvd_trans (Int.gcd_dvd_right ..) c2) (Int.dvd_trans (Int.gcd_dvd_left ..) c1)
      · rw [dv_no c2]; omega
    · rw [dv_no c1]; omega

/-- Of the remainders by a number just one is that of two others, if these agree. -/
theorem rem_count {g : Int} (hg : 1 ≤ g) (x y : Int) : sm (fun r => dv g (x - r) * dv g (y - r)) g.toNat = dv g (x - y) := by
  have r0 := Int.emod_nonneg x (show g ≠ 0 by omega)
  have r1 := Int.emod_lt_of_pos x (show 0 < g by omega)
  have rq := Int.emod_add_mul_ediv x g
  have kx : g ∣ x - x % g := ⟨x / g, by omega⟩
  by_cases h : g ∣ x - y
  · rw [dv_yes h]
    refine sm_one (k := (x % g).toNat) _ (by omega) ?_ ?_
    · have ky : g ∣ y - x % g := by
        have e : y - x % g = (x - x % g) - (x - y) := by omega
        rw [e]; exact Int.dvd_sub kx h
      rw [Int.toNat_of_nonneg r0, dv_yes kx, dv_yes ky]; rfl
    · intro i hi hne
      by_cases c : g ∣ x - i
      · exfalso
        have d : g ∣ (i : Int) - x % g := by
          have e : (i : Int) - x % g = (x - x % g) - (x - i) := by omega
          rw [e]; exact Int.dvd_sub kx c
        have := dvd_small d (by omega) (by omega)
        omega
      · rw [dv_no c]; omega
  · rw [dv_no h]
    refine sm_zero _ fun i _ => ?_
    by_cases c1 : g ∣ x - i
    · by_cases c2 : g ∣ y - i
      · exfalso
        apply h
        have e : x - y = (x - i) - (y - i) := by omega
        rw [e]; exact Int.dvd_sub c1 c2
      · rw [dv_no c2]; omega
    · rw [dv_no c1]; omega

theorem succ_div {g n : Int} (hg : 1 ≤ g) : (n % g + 1 < g → (n + 1) / g = n / g ∧ (n + 1) % g = n % g + 1) ∧ (n % g + 1 = g → (n + 1) / g = n / g + 1 ∧ (n + 1) % g = 0) := by
  have r0 := Int.emod_nonneg n (show g ≠ 0 by omega)
  have rq := Int.emod_add_mul_ediv n g
  constructor
  · intro h
    exact (Int.ediv_emod_unique (by omega)).2 ⟨by omega, by omega, h⟩
  · intro h
    exact (Int.ediv_emod_unique (by omega)).2 ⟨by rw [Int.mul_add]; omega, by omega, by omega⟩
/-- How many minutes of an occurrence have a remainder. -/
theorem times_sum {g : Int} (hg : 1 ≤ g) (f r : Int) : ∀ n : Nat, timesF f n g r = sm (fun i => dv g (f + i - r)) n
  | 0 => by
    have r0 := Int.emod_nonneg (r - f) (show g ≠ 0 by omega)
    show timesF f ((0 : Nat) : Int) g r = 0
    unfold timesF
    rw [show (((0 : Nat) : Int)) = 0 from rfl, Int.zero_ediv, Int.zero_emod, if_neg (by omega)]; rfl
  | n + 1 => by
    show _ = sm (fun i => dv g (f + i - r)) n + dv g (f + n - r)
    rw [← times_sum hg f r n]
    have r0 := Int.emod_nonneg (r - f) (show g ≠ 0 by omega)
    have r1 := Int.emod_lt_of_pos (r - f) (show 0 < g by omega)
    have n0 := Int.emod_nonneg (n : Int) (show g ≠ 0 by omega)
    have n1 := Int.emod_lt_of_pos (n : Int) (show 0 < g by omega)
    obtain ⟨s1, s2⟩ := succ_div (n := (n : Int)) hg
    have e : dv g (f + n - r) = if (n : Int) % g = (r - f) % g then 1 else 0 := by
      unfold dv
      have : ((n : Int) % g = (r - f) % g) ↔ (((f + n - r) % g) = 0) := by
        rw [Int.emod_eq_emod_iff_emod_sub_eq_zero]
        rw [show (n : Int) - (r - f) = f + n - r by omega]
      by_cases c : (f + n - r) % g = 0
      · rw [if_pos c, if_pos (this.2 c)]
      · rw [if_neg c, if_neg fun d => c (this.1 d)]
    rw [e]
    unfold timesF
    rw [show (((n + 1 : Nat)) : Int) = (n : Int) + 1 by omega]
    by_cases c : (n : Int) % g + 1 < g
    · obtain ⟨u1, u2⟩ := s1 c
      rw [u1, u2]
      by_cases d1 : (r - f) % g < (n : Int) % g
      · rw [if_pos d1, if_pos (by omega), if_neg (by omega)]; omega
      · by_cases d2 : (n : Int) % g = (r - f) % g
        · rw [if_neg d1, if_pos (by omega), if_pos d2]; omega
        · rw [if_neg d1, if_neg (by omega), if_neg d2]; omega
    · obtain ⟨u1, u2⟩ := s2 (by omega)
      rw [u1, u2, if_neg (by omega)]
      by_cases d1 : (r - f) % g < (n : Int) % g
      · rw [if_pos d1, if_neg (by omega)]
      · rw [if_neg d1, if_pos (by omega)]; omega

/-- Pairs of minutes of an occurrence of each turn that agree. -/
def pairsF (fa la fb lb g : Int) : Int := sm (fun i => sm (fun j => dv g ((fa + i) - (fb + j))) lb.toNat) la.toNat

/-- As many minutes are common in any row of as many as it takes until all comes again. -/
theorem row_count {pa fa la pb fb lb : Int} (ha : TOk pa fa la) (hb : TOk pb fb lb) (s : Int) :
    sm (fun t => iT pa fa la (s + t) * iT pb fb lb (s + t)) (lcmF pa pb).toNat = pairsF fa la fb lb (Int.gcd pa pb) := by
  have e1 : ∀ t : Nat, iT pa fa la (s + t) * iT pb fb lb (s + t) = sm (fun i => sm (fun j => dv pa (s + t - (fa + i)) * dv pb (s + t - (fb + j))) lb.toNat) la.toNat := by
    intro t
    rw [iT_sum ha, iT_sum hb, sm_prod]
  rw [sm_congr _ fun t _ => e1 t, sm_swap]
  refine sm_congr _ fun i _ => ?_
  rw [sm_swap (fun t j => dv pa (s + t - (fa + i)) * dv pb (s + t - (fb + j)))]
  exact sm_congr _ fun j _ => crt_count ha.1 hb.1 s (fa + i) (fb + j)

theorem oftenF_sm (fa la fb lb g : Int) : ∀ k : Nat, oftenF fa la fb lb g k = sm (fun r => timesF fa la g r * timesF fb lb g r) k
  | 0 => rfl
  | k + 1 => by
    show oftenF fa la fb lb g k + timesF fa la g k * timesF fb lb g k = _
    rw [oftenF_sm fa la fb lb g k]; rfl
/-- What Often adds up are these pairs. -/
theorem often_pairs {fa la fb lb g : Int} (hg : 1 ≤ g) (h1 : 0 ≤ la) (h2 : 0 ≤ lb) : oftenF fa la fb lb g g.toNat = pairsF fa la fb lb g := by
  rw [oftenF_sm]
  have e1 : ∀ r : Nat, timesF fa la g r * timesF fb lb g r = sm (fun i => sm (fun j => dv g ((fa + i) - r) * dv g ((fb + j) - r)) lb.toNat) la.toNat := by
    intro r
    have a := times_sum hg fa r la.toNat
    have b := times_sum hg fb r lb.toNat
    rw [Int.toNat_of_nonneg h1] at a
    rw [Int.toNat_of_nonneg h2] at b
    rw [a, b, sm_prod]
  rw [sm_congr _ fun r _ => e1 r, sm_swap]
  refine sm_congr _ fun i _ => ?_
  rw [sm_swap (fun r j => dv g ((fa + i) - r) * dv g ((fb + j) - r))]
  exact sm_congr _ fun j _ => rem_count hg (fa + i) (fb + j)

/-- How many integers from 0 up to a number are in a turn. -/
def belowF (p f l n : Int) : Int :=
  n / p * l + max 0 (min (n % p) (f + l) - min (n % p) f) + max 0 (min (n % p) (f + l - p))
theorem below_sum {p f l : Int} (h : TOk p f l) : ∀ n : Nat, belowF p f l n = sm (fun i => iT p f l i) n
  | 0 => by
    obtain ⟨p1, _, f0, f1, l1, l2⟩ := h
    show belowF p f l ((0 : Nat) : Int) = 0
    unfold belowF
    rw [show (((0 : Nat) : Int)) = 0 from rfl, Int.zero_ediv, Int.zero_emod]; omega
  | n + 1 => by
    show _ = sm (fun i => iT p f l i) n + iT p f l n
    rw [← below_sum h n]
    obtain ⟨p1, _, f0, f1, l1, l2⟩ := h
    have n0 := Int.emod_nonneg (n : Int) (show p ≠ 0 by omega)
    have n1 := Int.emod_lt_of_pos (n : Int) (show 0 < p by omega)
    have nq := Int.emod_add_mul_ediv (n : Int) p
    obtain ⟨s1, s2⟩ := succ_div (n := (n : Int)) p1
    have e : ((n : Int) - f) % p = if f ≤ (n : Int) % p then (n : Int) % p - f else (n : Int) % p - f + p := by
      by_cases c : f ≤ (n : Int) % p
      · rw [if_pos c]
        exact ((Int.ediv_emod_unique (a := (n : Int) - f) (b := p) (r := (n : Int) % p - f) (q := (n : Int) / p) (by omega)).2 ⟨by omega, by omega, by omega⟩).2
      · rw [if_neg c]
        exact ((Int.ediv_emod_unique (a := (n : Int) - f) (b := p) (r := (n : Int) % p - f + p) (q := (n : Int) / p - 1) (by omega)).2 ⟨by rw [Int.mul_sub]; omega, by omega, by omega⟩).2
    unfold iT
    rw [e]
    unfold belowF
    rw [show (((n + 1 : Nat)) : Int) = (n : Int) + 1 by omega]
    by_cases c : (n : Int) % p + 1 < p
    · obtain ⟨u1, u2⟩ := s1 c
      rw [u1, u2]
      generalize (n : Int) / p * l = Q
      generalize (n : Int) % p = m at *
      split <;> split <;> omega
    · obtain ⟨u1, u2⟩ := s2 (by omega)
      rw [u1, u2, Int.add_mul]
      generalize (n : Int) / p * l = Q
      generalize (n : Int) % p = m at *
      split <;> split <;> omega
theorem below_diff {p f l : Int} (h : TOk p f l) {x : Int} {d : Nat} (hx : 0 ≤ x) : belowF p f l (x + d) - belowF p f l x = sm (fun i => iT p f l (x + i)) d := by
  have a := below_sum h (x.toNat + d)
  have b := below_sum h x.toNat
  rw [sm_append, ← b] at a
  rw [show ((x.toNat + d : Nat) : Int) = x + d by omega, show ((x.toNat : Nat) : Int) = x by omega] at a
  rw [a]
  rw [sm_congr d (f := fun i => iT p f l (((x.toNat + i : Nat)) : Int)) (g := fun i => iT p f l (x + i)) fun i _ => by show iT p f l _ = iT p f l _; rw [show ((x.toNat + i : Nat) : Int) = x + i by omega]]
  omega

/-- Of as many periods as it takes until all comes again just one brings a remainder, if it fits. -/
theorem per_count {pa pb : Int} (ha : 1 ≤ pa) (hb : 1 ≤ pb) (u v : Int) :
    sm (fun k => dv pb (u + k * pa - v)) (lcmF pa pb / pa).toNat = dv (Int.gcd pa pb) (u - v) := by
  have L1 := lcmF_pos ha hb
  have La := lcmF_dvd_left pa pb
  have Lb := lcmF_dvd_right pa pb
  have LD := fun x => @lcmF_dvd pa pb x ha hb
  have Lq : lcmF pa pb / pa * pa = lcmF pa pb := Int.ediv_mul_cancel La
  by_cases hg : (Int.gcd pa pb : Int) ∣ u - v
  · rw [dv_yes hg]
    obtain ⟨n, n0, na, nb⟩ := crt pa pb u v ha hb (by obtain ⟨c, hc⟩ := hg; exact ⟨-c, by rw [Int.mul_neg]; omega⟩)
    generalize lcmF pa pb = L at *
    have r0 := Int.emod_nonneg (n - u) (show L ≠ 0 by omega)
    have r1 := Int.emod_lt_of_pos (n - u) (show 0 < L by omega)
    have rq := Int.emod_add_mul_ediv (n - u) L
    have ka : pa ∣ (n - u) % L := by
      have e : (n - u) % L = (n - u) - L * ((n - u) / L) := by omega
      rw [e]; exact Int.dvd_sub na (Int.dvd_mul_of_dvd_left La)
    have kb : pb ∣ u + (n - u) % L - v := by
      have e : u + (n - u) % L - v = (n - v) - L * ((n - u) / L) := by omega
      rw [e]; exact Int.dvd_sub nb (Int.dvd_mul_of_dvd_left Lb)
    obtain ⟨c, hc⟩ := ka
    generalize (n - u) % L = R at *
    have c0 : 0 ≤ c := Int.not_lt.1 fun h => by
      have : pa * c ≤ pa * (-1) := Int.mul_le_mul_of_nonneg_left (by omega) (by omega)
      omega
    have c1 : c < L / pa := Int.not_le.1 fun h => by
      have : L / pa * pa ≤ c * pa := Int.mul_le_mul_of_nonneg_right h (by omega)
      rw [Int.mul_comm c pa] at this
      omega
    refine sm_one (k := c.toNat) _ (by omega) ?_ ?_
    · rw [Int.toNat_of_nonneg c0, Int.mul_comm c pa, ← hc, dv_yes kb]
    · intro i hi hne
      refine dv_no fun hd => ?_
      have d1 : pa ∣ (i : Int) * pa - c * pa := ⟨(i : Int) - c, by rw [Int.mul_sub, Int.mul_comm pa i, Int.mul_comm pa c]⟩
      have d2 : pb ∣ (i : Int) * pa - c * pa := by
        have e : (i : Int) * pa - c * pa = (u + i * pa - v) - (u + R - v) := by rw [hc, Int.mul_comm pa c]; omega
        rw [e]; exact Int.dvd_sub hd kb
      have b1 : (i : Int) * pa ≤ (L / pa - 1) * pa := Int.mul_le_mul_of_nonneg_right (by omega) (by omega)
      have b2 : c * pa ≤ (L / pa - 1) * pa := Int.mul_le_mul_of_nonneg_right (by omega) (by omega)
      have b3 : 0 ≤ (i : Int) * pa := Int.mul_nonneg (by omega) (by omega)
      have b4 : 0 ≤ c * pa := Int.mul_nonneg (by omega) (by omega)
      rw [Int.sub_mul, Lq] at b1 b2
      have z := dvd_small (LD _ d1 d2) (by omega) (by omega)
      have : (i : Int) * pa = c * pa := by omega
      have := Int.eq_of_mul_eq_mul_right (by omega) this
      omega
  · rw [dv_no hg]
    refine sm_zero _ fun i _ => dv_no fun hd => hg ?_
    have e : u - v = (u + i * pa - v) - i * pa := by omega
    rw [e]
    exact Int.dvd_sub (Int.dvd_trans (Int.gcd_dvd_right ..) hd) (Int.dvd_mul_of_dvd_right (Int.gcd_dvd_left ..))

/-- What the specification adds up: of each occurrence of a turn, how many minutes are in the other one. -/
def rOftenF (pa fa la pb fb lb : Int) (k : Nat) : Int :=
  sm (fun k => belowF pb fb lb (fa + k * pa + la) - belowF pb fb lb (fa + k * pa)) k
theorem rOften_pairs {pa fa la pb fb lb : Int} (ha : TOk pa fa la) (hb : TOk pb fb lb) :
    rOftenF pa fa la pb fb lb (lcmF pa pb / pa).toNat = pairsF fa la fb lb (Int.gcd pa pb) := by
  obtain ⟨a1, a2, a3, a4, a5, a6⟩ := id ha
  unfold rOftenF
  have e1 : ∀ k : Nat, belowF pb fb lb (fa + k * pa + la) - belowF pb fb lb (fa + k * pa) = sm (fun i => sm (fun j => dv pb ((fa + i) + k * pa - (fb + j))) lb.toNat) la.toNat := by
    intro k
    have b := below_diff hb (x := fa + k * pa) (d := la.toNat) (by have := Int.mul_nonneg (show 0 ≤ (k : Int) by omega) (show 0 ≤ pa by omega); omega)
    rw [Int.toNat_of_nonneg (by omega)] at b
    rw [b]
    refine sm_congr _ fun i _ => ?_
    rw [iT_sum hb]
    exact sm_congr _ fun j _ => by show dv pb _ = dv pb _; rw [show fa + (k : Int) * pa + i - (fb + j) = fa + i + k * pa - (fb + j) by omega]
  rw [sm_congr _ fun k _ => e1 k, sm_swap]
  refine sm_congr _ fun i _ => ?_
  rw [sm_swap (fun k j => dv pb ((fa + i) + k * pa - (fb + j)))]
  exact sm_congr _ fun j _ => per_count a1 hb.1 (fa + i) (fb + j)
/-- Both ways come to the same. -/
theorem often_same {pa fa la pb fb lb : Int} (ha : TOk pa fa la) (hb : TOk pb fb lb) :
    rOftenF pa fa la pb fb lb (lcmF pa pb / pa).toNat = oftenF fa la fb lb (Int.gcd pa pb) (Int.gcd pa pb) := by
  have g1 := gcd_pos (b := pb) ha.1
  have h := often_pairs (fa := fa) (la := la) (fb := fb) (lb := lb) g1 (by have := ha.2.2.2.2.1; omega) (by have := hb.2.2.2.2.1; omega)
  rw [Int.toNat_natCast] at h
  rw [rOften_pairs ha hb, h]
theorem belowF_bd {p f l n : Int} (h : TOk p f l) (hn : 0 ≤ n) : 0 ≤ belowF p f l n ∧ belowF p f l n ≤ n := by
  have a := below_sum h n.toNat
  rw [Int.toNat_of_nonneg hn] at a
  rw [a]
  have b := sm_bd (f := fun i => iT p f l i) (fun i => by unfold iT; split <;> omega) n.toNat
  omega
end Go.Proofs.YtlhgpeelenelbaaDoor

/- Contracts of the specification's below and Often. -/
namespace Go.Proofs.YtlhgpeelenelbaaDoor
open Go.RowKit

set_option maxHeartbeats 2000000 in
theorem rbelow_any (p f l n : Int) (w : World) (h : TOk p f l) (h1 : 0 ≤ n) (h2 : n ≤ 9000000000000) :
    Calls Tryd.prog 86 #[tv p f l, .int .i64 n] w fun e w' => e = .returned (.int .i64 (belowF p f l n)) ∧ Below w.heap.size w w' := by
  obtain ⟨a1, a2, a3, a4, a5, a6⟩ := h
  have hz : (p == 0) = false := beq_eq_false_iff_ne.2 (by omega)
  have e3 : 0 ≤ n % p := Int.emod_nonneg _ (by omega)
  have e4 : n % p < p := Int.emod_lt_of_pos _ (by omega)
  have e5 : 0 ≤ n / p := Int.ediv_nonneg (by omega) (by omega)
  have e6 : n / p ≤ n := Int.ediv_le_self _ (by omega)
  have e7 : 0 ≤ n / p * l := Int.mul_nonneg e5 (by omega)
  have e8 : n / p * l ≤ 9000000000000 * 40320 := Int.mul_le_mul (by omega) (by omega) (by omega) (by omega)
  have H : belowF p f l n = n / p * l + max 0 (min (n % p) (f + l) - min (n % p) f) + max 0 (min (n % p) (f + l - p)) := rfl
  have H' := Lib.hid H
  clear H
  by_cases c1 : f + l < n % p
  all_goals by_cases c2 : f < n % p
  all_goals by_cases c3 : f + l - p < n % p
  all_goals by_cases c4 : 0 < f + l - p
  all_goals by_cases c5 : 0 < n % p
  all_goals first
    | omega
    | (go_enter Tryd.func86, Tryd.ntmps86
       go_wp2_with fail
       go_ret
       exact ⟨ret_int (by rw [H'.out]; all_goals (generalize n / p * l = Q at *; generalize n % p = m at *; omega)), (Below.refl _ _).alloc (Nat.le_refl _) _⟩)

set_option maxHeartbeats 1000000 in
theorem rOften_bad (pa fa la pb fb lb : Int) (w : World) (h : ¬ TOk pa fa la ∨ ¬ TOk pb fb lb) :
    Calls Tryd.prog 30 #[tv pa fa la, tv pb fb lb] w fun e w' => e = .returned (.tuple #[.int .i64 0, .int .i64 0, .int .i64 1]) ∧ Below w.heap.size w w' := by
  have S0 := Lib.hid (SS.new (w := w) (pa := pa) (fa := fa) (la := la) (pb := pb) (fb := fb) (lb := lb) 27 27)
  go_enter Tryd.func30, Tryd.ntmps30
  go_wp2_with fail
  refine (rpair_any pa fa la pb fb lb 1 _ (.inr ⟨h, rfl⟩)).mono ?_
  rintro e w1 ⟨rfl, h1⟩
  go_wp2_with fail
  go_ret3
  exact ⟨rfl, (SS.below S0.out h1).2.2.2.2.2.2.2⟩

theorem rOftenF_bd {pa fa la pb fb lb : Int} (ha : TOk pa fa la) (hb : TOk pb fb lb) (k : Nat) :
    0 ≤ rOftenF pa fa la pb fb lb k ∧ rOftenF pa fa la pb fb lb k ≤ k * la := by
  obtain ⟨a1, a2, a3, a4, a5, a6⟩ := id ha
  induction k with
  | zero => exact ⟨Int.le_refl _, by simp [rOftenF, sm]⟩
  | succ k ih =>
    show 0 ≤ rOftenF pa fa la pb fb lb k + (belowF pb fb lb (fa + k * pa + la) - belowF pb fb lb (fa + k * pa)) ∧ rOftenF pa fa la pb fb lb k + (belowF pb fb lb (fa + k * pa + la) - belowF pb fb lb (fa + k * pa)) ≤ _
    have b := below_diff hb (x := fa + k * pa) (d := la.toNat) (by have := Int.mul_nonneg (show 0 ≤ (k : Int) by omega) (show 0 ≤ pa by omega); omega)
    rw [Int.toNat_of_nonneg (by omega)] at b
    rw [b]
    have c := sm_bd (f := fun i => iT pb fb lb (fa + k * pa + i)) (fun i => by unfold iT; split <;> omega) la.toNat
    rw [Int.toNat_of_nonneg (by omega)] at c
    rw [show ((k + 1 : Nat) : Int) * la = k * la + la by rw [show ((k + 1 : Nat) : Int) = (k : Int) + 1 by omega, Int.add_mul]; omega]
    omega

set_option maxHeartbeats 2000000 in
set_option maxRecDepth 100000 in
theorem rOften_ok (pa fa la pb fb lb : Int) (w : World) (ha : TOk pa fa la) (hb : TOk pb fb lb) :
    Calls Tryd.prog 30 #[tv pa fa la, tv pb fb lb] w fun e w' =>
      e = .returned (.tuple #[.int .i64 (oftenF fa la fb lb (Int.gcd pa pb) (Int.gcd pa pb)), .int .i64 (lcmF pa pb), .int .i64 0]) ∧ Below w.heap.size w w' := by
  rw [← often_same ha hb]
  have l1 := lcmF_pos ha.1 hb.1
  have l2 := lcmF_le ha.1 hb.1 ha.2.1 hb.2.1
  have l3 := lcmF_dvd_left pa pb
  have OB := Lib.hid fun k => rOftenF_bd ha hb k
  obtain ⟨a1, a2, a3, a4, a5, a6⟩ := id ha
  obtain ⟨b1, b2, b3, b4, b5, b6⟩ := id hb
  have S0 := Lib.hid (SS.new (w := w) (pa := pa) (fa := fa) (la := la) (pb := pb) (fb := fb) (lb := lb) 27 27)
  have M := fun w => rmultiple_any pa pb w (by omega) (by omega) (by omega) (by omega)
  change ∀ w, Calls Tryd.prog 83 #[.int .i64 pa, .int .i64 pb] w fun e w' => e = .returned (.int .i64 (lcmF pa pb)) ∧ w = w' at M
  generalize lcmF pa pb = L at *
  have M' := Lib.hid M
  obtain ⟨q, hq⟩ := l3
  have hz : (pa == 0) = false := beq_eq_false_iff_ne.2 (by omega)
  have dq : L / pa = q := by rw [hq]; exact Int.mul_ediv_cancel_left _ (by omega)
  have q1 : 1 ≤ q := Int.not_lt.1 fun h => by
    have : pa * q ≤ pa * 0 := Int.mul_le_mul_of_nonneg_left (by omega) (by omega)
    omega
  have q2 : q ≤ L := by rw [← dq]; exact Int.ediv_le_self _ (by omega)
  obtain ⟨qn, rfl⟩ : ∃ n : Nat, q = n := ⟨q.toNat, by omega⟩
  rw [dq, Int.toNat_natCast]
  have DQ := Lib.hid dq
  have HQ := Lib.hid hq
  clear M hq dq
  go_enter Tryd.func30, Tryd.ntmps30
  go_wp2_with fail
  refine (rpair_any pa fa la pb fb lb 0 _ (.inl ⟨ha, hb, rfl⟩)).mono ?_
  rintro e w1 ⟨rfl, h1⟩
  have S1 := SS.below S0.out h1
  clear h1 S0
  have S1' := Lib.hid S1
  obtain ⟨t0, t1, t2, t3, t4, t5, t6, _⟩ := S1
  go_wp2_with fail
  refine (M'.out _).mono ?_
  rintro e w2 ⟨rfl, rfl⟩
  go_wp2_with fail
  go_loopw [9, 10] (fun u v wr => ∃ k : Nat, v = .int .i64 k ∧ k ≤ qn ∧ u = .int .i64 (rOftenF pa fa la pb fb lb k) ∧ SS w pa fa la pb fb lb wr) (fun _ v _ => (qn - (intOf v).toNat))
  case atStart => exact ⟨0, rfl, by omega, rfl, S1'.out⟩
  case round =>
    obtain ⟨k, rfl, hk, rfl, S3⟩ := hrel
    have S3' := Lib.hid S3
    obtain ⟨t0, t1, t2, t3, t4, t5, t6, _⟩ := S3
    have ⟨o1, o2⟩ := OB.out k
    have o3 : (k : Int) * la ≤ L := by
      rw [HQ.out, Int.mul_comm pa (qn : Int)]; exact Int.mul_le_mul (by omega) a6 (by omega) (by omega)
    have c0 : 0 ≤ (k : Int) * pa := Int.mul_nonneg (by omega) (by omega)
    by_cases hlt : (k : Int) < L / pa
    · have hkq : k < qn := by have := DQ.out; omega
      have c1 : (k : Int) * pa ≤ L := by
        rw [HQ.out, Int.mul_comm pa (qn : Int)]; exact Int.mul_le_mul_of_nonneg_right (by omega) (by omega)
      have Cu := Lib.hid fun w => rbelow_any pb fb lb (fa + k * pa + la) w hb (by omega) (by omega)
      have Cv := Lib.hid fun w => rbelow_any pb fb lb (fa + k * pa) w hb (by omega) (by omega)
      have ⟨u1, u2⟩ := belowF_bd (n := fa + k * pa + la) hb (by omega)
      have ⟨v1, v2⟩ := belowF_bd (n := fa + k * pa) hb (by omega)
      have HO : Hid (rOftenF pa fa la pb fb lb (k + 1) = rOftenF pa fa la pb fb lb k + (belowF pb fb lb (fa + k * pa + la) - belowF pb fb lb (fa + k * pa))) := Lib.hid rfl
      generalize belowF pb fb lb (fa + k * pa + la) = bu at *
      generalize belowF pb fb lb (fa + k * pa) = bv at *
      generalize rOftenF pa fa la pb fb lb k = on at *
      have S3e : SSd w pa fa la pb fb lb wr := S3'.out
      have W1 : IntKind.i64.wrap ((k : Int) * pa) = k * pa := IntWalk.i64_in _ (by omega)
      go_wp2_with fail
      generalize hx : fa + (k : Int) * pa = x at *
      generalize hy : x + la = y at *
      have W2 : IntKind.i64.wrap (x + la) = y := by rw [hy]; exact IntWalk.i64_in _ (by omega)
      have W3 : IntKind.i64.wrap (on + bu) = on + bu := IntWalk.i64_in _ (by omega)
      have W4 : IntKind.i64.wrap (on + bu - bv) = on + (bu - bv) := by rw [show on + bu - bv = on + (bu - bv) by omega]; exact IntWalk.i64_in _ (by omega)
      have R := Lib.hid (show IntKind.i64.wrap (IntKind.i64.wrap (on + bu) - bv) = on + (bu - bv) by rw [W3, W4])
      clear hx hy W3 W4
      go_region_held3 (SS w pa fa la pb fb lb) ((refine SSd.out ?_; with_reducible (first | exact S5 | exact S4 | exact SSd.drew S3e)))
        (first
          | (go_at_call 86; with_reducible refine (Cu.out _).mono ?_; rintro e w4 ⟨rfl, h4⟩; have S4 : SSd w pa fa la pb fb lb w4 := SSd.below (SSd.drew S3e) h4; clear h4)
          | (go_at_call 86; with_reducible refine (Cv.out _).mono ?_; rintro e w5 ⟨rfl, h5⟩; have S5 : SSd w pa fa la pb fb lb w5 := SSd.below S4 h5; clear h5))
      all_goals go_wp2_with fail
      go_roundw
      case rel => exact ⟨k + 1, by go_num, by omega, by rw [HO.out]; exact congrArg _ R.out, S5⟩
      case measure => show qn - ((k : Int) + 1).toNat < qn - (k : Int).toNat; omega
    · obtain rfl : k = qn := by have := DQ.out; omega
      go_wp2_with fail
      go_ret3
      exact ⟨rfl, S3'.out.2.2.2.2.2.2.2⟩
end Go.Proofs.YtlhgpeelenelbaaDoor

/- The law TurnMeets, its calls met by their contracts; sanity is a hypothesis here. -/
namespace Go.Proofs.YtlhgpeelenelbaaDoor
open Go.RowKit

theorem FirstIs.exists_ {pa fa la pb fb lb : Int} (ha : TOk pa fa la) (hb : TOk pb fb lb) : ∃ N c, FirstIs pa fa la pb fb lb N c := by
  cases h : kaB la ((fb - fa) % (Int.gcd pa pb : Int)) lb (Int.gcd pa pb)
  · obtain ⟨n, _, n1, n2⟩ := meets ha hb h
    obtain ⟨N, h0, h1, h2, h3⟩ := first_least ha hb ⟨n1, n2⟩
    have hl := lcmF_le ha.1 hb.1 ha.2.1 hb.2.1
    exact ⟨N, 0, .inl ⟨rfl, h0, by omega, h2, h3⟩⟩
  · exact ⟨0, 5, .inr ⟨rfl, rfl, fun m _ => apart_none ha hb (gcd_pos ha.1) (Int.gcd_dvd_left ..) (Int.gcd_dvd_right ..) h m⟩⟩

theorem not_both {p q : Prop} (h : ¬ (p ∧ q)) : ¬ p ∨ ¬ q := by
  by_cases k : p
  · exact .inr fun c => h ⟨k, c⟩
  · exact .inl k

/-- First of both packages returns the same. -/
theorem first_same (pa fa la pb fb lb : Int) : ∃ (m c : Int),
    (∀ W, Calls Tryd.prog 27 #[tv pa fa la, tv pb fb lb] W fun e w' => e = .returned (.tuple #[.int .i64 m, .int .i64 c]) ∧ Below W.heap.size W w') ∧
    (∀ W, Calls Tryd.prog 28 #[tv pa fa la, tv pb fb lb] W fun e w' => e = .returned (.tuple #[.int .i64 m, .int .i64 c]) ∧ Below W.heap.size W w') := by
  by_cases h : TOk pa fa la ∧ TOk pb fb lb
  · obtain ⟨m, c, hm⟩ := FirstIs.exists_ h.1 h.2
    refine ⟨m, c, fun W => (first_ok pa fa la pb fb lb W h.1 h.2).mono ?_, fun W => (rfirst_ok pa fa la pb fb lb W h.1 h.2).mono ?_⟩
    all_goals
      rintro e w' ⟨m', c', hm', rfl, hb⟩
      obtain ⟨rfl, rfl⟩ := hm.unique hm'
      exact ⟨rfl, hb⟩
  · exact ⟨0, 1, fun W => first_bad pa fa la pb fb lb W (not_both h), fun W => rfirst_bad pa fa la pb fb lb W (not_both h)⟩
theorem often_both (pa fa la pb fb lb : Int) : ∃ (n l c : Int),
    (∀ W, Calls Tryd.prog 29 #[tv pa fa la, tv pb fb lb] W fun e w' => e = .returned (.tuple #[.int .i64 n, .int .i64 l, .int .i64 c]) ∧ Below W.heap.size W w') ∧
    (∀ W, Calls Tryd.prog 30 #[tv pa fa la, tv pb fb lb] W fun e w' => e = .returned (.tuple #[.int .i64 n, .int .i64 l, .int .i64 c]) ∧ Below W.heap.size W w') := by
  by_cases h : TOk pa fa la ∧ TOk pb fb lb
  · exact ⟨_, _, 0, fun W => often_ok pa fa la pb fb lb W h.1 h.2, fun W => rOften_ok pa fa la pb fb lb W h.1 h.2⟩
  · exact ⟨0, 0, 1, fun W => often_bad pa fa la pb fb lb W (not_both h), fun W => rOften_bad pa fa la pb fb lb W (not_both h)⟩

set_option maxHeartbeats 4000000 in
set_option maxRecDepth 100000 in
theorem turnMeets_calls (hsan : ∀ W, Calls Tryd.prog 16 #[] W fun e w' => e = .returned (.bool true) ∧ Below W.heap.size W w')
    (pa fa la pb fb lb : Int) (w : World) :
    Calls Tryd.prog 4 #[tv pa fa la, tv pb fb lb] w fun e w' => e = .returned (.bool true) ∧ Below w.heap.size w w' := by
  obtain ⟨am, ac, A1, A2⟩ := first_same pa fa la pb fb lb
  obtain ⟨on, ol, oc, O1, O2⟩ := often_both pa fa la pb fb lb
  have HA1 := Lib.hid A1
  have HA2 := Lib.hid A2
  have HO1 := Lib.hid O1
  have HO2 := Lib.hid O2
  have HS := Lib.hid hsan
  clear A1 A2 O1 O2 hsan
  have S0 := Lib.hid (SS.new (w := w) (pa := pa) (fa := fa) (la := la) (pb := pb) (fb := fb) (lb := lb) 27 27)
  go_enter Tryd.func4, Tryd.ntmps4
  go_wp2_with fail
  refine (HA1.out _).mono ?_
  rintro e w1 ⟨rfl, h1⟩
  have S1 := SS.below S0.out h1
  clear h1 S0
  have S1' := Lib.hid S1
  obtain ⟨t0, t1, t2, t3, t4, t5, t6, _⟩ := S1
  go_wp2_with fail
  refine (HA2.out _).mono ?_
  rintro e w2 ⟨rfl, h2⟩
  have S2 := SS.below S1'.out h2
  clear h2 S1' t0 t1 t2 t3 t4 t5 t6
  have S2' := Lib.hid S2
  obtain ⟨t0, t1, t2, t3, t4, t5, t6, _⟩ := S2
  go_wp2_with fail
  refine (HO1.out _).mono ?_
  rintro e w3 ⟨rfl, h3⟩
  have S3 := SS.below S2'.out h3
  clear h3 S2' t0 t1 t2 t3 t4 t5 t6
  have S3' := Lib.hid S3
  obtain ⟨t0, t1, t2, t3, t4, t5, t6, _⟩ := S3
  go_wp2_with fail
  refine (HO2.out _).mono ?_
  rintro e w4 ⟨rfl, h4⟩
  have S4 := SS.below S3'.out h4
  clear h4 S3' t0 t1 t2 t3 t4 t5 t6
  have S4' := Lib.hid S4
  have S4d : SSd w pa fa la pb fb lb w4 := S4
  obtain ⟨t0, t1, t2, t3, t4, t5, t6, _⟩ := S4
  go_wp2_with fail
  refine (HS.out _).mono ?_
  rintro e w5 ⟨rfl, h5⟩
  have S5 := SS.below S4'.out h5
  clear h5 t0 t1 t2 t3 t4 t5 t6
  go_wp2_with fail
  go_ret
  exact ⟨rfl, S5.2.2.2.2.2.2.2⟩
end Go.Proofs.YtlhgpeelenelbaaDoor
