/- The law TurnResidues holds for every input: two turns, a modulus and a number. No condition beside the statement's own. (How many minutes two turns have in common; what the law asks; the law, its row, its card.) -/
import Derived.Test.YtlhgpeelenelbaaDoorM2
import Derived.Test.YtlhgpeelenelbaaDoorB3
import Derived.Test.YtlhgpeelenelbaaDoorL1
import Derived.Test.YtlhgpeelenelbaaDoorA6
import Derived.Test.YtlhgpeelenelbaaDoorP1
import Derived.Test.YtlhgpeelenelbaaDoorII
namespace Go.Proofs.YtlhgpeelenelbaaDoor

/-- The sum of the first numbers of a sequence. -/
def sm (f : Nat → Int) : Nat → Int
  | 0 => 0
  | n + 1 => sm f n + f n
theorem sm_congr {f g : Nat → Int} : ∀ n : Nat, (∀ i, i < n → f i = g i) → sm f n = sm g n
  | 0, _ => rfl
  | n + 1, h => by
    show sm f n + f n = sm g n + g n
    rw [sm_congr n fun i hi => h i (by omega), h n (by omega)]
theorem sm_zero {f : Nat → Int} : ∀ n : Nat, (∀ i, i < n → f i = 0) → sm f n = 0
  | 0, _ => rfl
  | n + 1, h => by
    show sm f n + f n = 0
    rw [sm_zero n fun i hi => h i (by omega), h n (by omega)]; rfl
theorem sm_plus (f g : Nat → Int) : ∀ n : Nat, sm (fun i => f i + g i) n = sm f n + sm g n
  | 0 => rfl
  | n + 1 => by
    show sm (fun i => f i + g i) n + (f n + g n) = sm f n + f n + (sm g n + g n)
    rw [sm_plus f g n]; omega
theorem sm_times (c : Int) (f : Nat → Int) : ∀ n : Nat, sm (fun i => c * f i) n = c * sm f n
  | 0 => by show (0 : Int) = c * 0; omega
  | n + 1 => by
    show sm (fun i => c * f i) n + c * f n = c * (sm f n + f n)
    rw [sm_times c f n, Int.mul_add]
theorem sm_swap (f : Nat → Nat → Int) (m : Nat) : ∀ n : Nat, sm (fun i => sm (f i) m) n = sm (fun j => sm (fun i => f i j) n) m
  | 0 => (sm_zero m fun _ _ => rfl).symm
  | n + 1 => by
    show sm (fun i => sm (f i) m) n + sm (f n) m = sm (fun j => sm (fun i => f i j) n + f n j) m
    rw [sm_swap f m n, sm_plus (fun j => sm (fun i => f i j) n) (f n) m]
theorem sm_prod (f g : Nat → Int) (m : Nat) : ∀ n : Nat, sm f n * sm g m = sm (fun i => sm (fun j => f i * g j) m) n
  | 0 => by show (0 : Int) * _ = 0; omega
  | n + 1 => by
    show (sm f n + f n) * sm g m = sm (fun i => sm (fun j => f i * g j) m) n + sm (fun j => f n * g j) m
    rw [← sm_prod f g m n, sm_times, Int.add_mul]
theorem sm_one {f : Nat → Int} {k : Nat} : ∀ n : Nat, k < n → f k = 1 → (∀ i, i < n → i ≠ k → f i = 0) → sm f n = 1
  | 0, h, _, _ => by omega
  | n + 1, h, h1, h0 => by
    show sm f n + f n = 1
    by_cases c : k = n
    · subst c
      rw [sm_zero k fun i hi => h0 i (by omega) (by omega), h1]; rfl
    · rw [sm_one n (by omega) h1 fun i hi hk => h0 i (by omega) hk, h0 n (by omega) (by omega)]; rfl
theorem sm_append (f : Nat → Int) (a : Nat) : ∀ b : Nat, sm f (a + b) = sm f a + sm (fun i => f (a + i)) b
  | 0 => by show sm f a = sm f a + 0; omega
  | b + 1 => by
    show sm f (a + b) + f (a + b) = sm f a + (sm (fun i => f (a + i)) b + f (a + b))
    rw [sm_append f a b]; omega
theorem sm_bd {f : Nat → Int} (h : ∀ i, 0 ≤ f i ∧ f i ≤ 1) : ∀ n : Nat, 0 ≤ sm f n ∧ sm f n ≤ n
  | 0 => ⟨Int.le_refl _, Int.le_refl _⟩
  | n + 1 => by
    have a := sm_bd h n
    have b := h n
    show 0 ≤ sm f n + f n ∧ sm f n + f n ≤ _
    omega

/-- 1 if a number divides another one, otherwise 0. -/
def dv (p x : Int) : Int := if x % p = 0 then 1 else 0
theorem dv_yes {p x : Int} (h : p ∣ x) : dv p x = 1 := if_pos (Int.emod_eq_zero_of_dvd h)
theorem dv_no {p x : Int} (h : ¬ p ∣ x) : dv p x = 0 := if_neg fun c => h (Int.dvd_of_emod_eq_zero c)
theorem dvd_small {p x : Int} (h : p ∣ x) (h1 : -p < x) (h2 : x < p) : x = 0 := by
  by_cases c : 0 < x
  · have := Int.le_of_dvd c h; omega
  · by_cases d : x < 0
    · have := Int.le_of_dvd (show 0 < -x by omega) (Int.dvd_neg.2 h); omega
    · omega

/-- 1 if an integer is in a turn, otherwise 0. -/
def iT (p f l n : Int) : Int := if (n - f) % p < l then 1 else 0
theorem iT_sum {p f l : Int} (h : TOk p f l) (n : Int) : iT p f l n = sm (fun i => dv p (n - (f + i))) l.toNat := by
  obtain ⟨p1, _, _, _, l1, l2⟩ := h
  have r0 := Int.emod_nonneg (n - f) (show p ≠ 0 by omega)
  have r1 := Int.emod_lt_of_pos (n - f) (show 0 < p by omega)
  have rq := Int.emod_add_mul_ediv (n - f) p
  have key : ∀ i : Nat, (i : Int) < l → p ∣ n - (f + i) → (i : Int) = (n - f) % p := by
    intro i hi hd
    have hd2 : p ∣ (n - f) % p - i := by
      obtain ⟨c, hc⟩ := hd
      exact ⟨c - (n - f) / p, by rw [Int.mul_sub]; omega⟩
    have := dvd_small hd2 (by omega) (by omega)
    omega
  unfold iT
  by_cases c : (n - f) % p < l
  · rw [if_pos c]
    refine (sm_one (k := ((n - f) % p).toNat) _ (by omega) ?_ ?_).symm
    · refine dv_yes ⟨(n - f) / p, ?_⟩
      rw [Int.toNat_of_nonneg r0]; omega
    · intro i hi hne
      exact dv_no fun hd => hne (by have := key i (by omega) hd; omega)
  · rw [if_neg c]
    refine (sm_zero _ fun i hi => dv_no fun hd => ?_).symm
    have := key i (by omega) hd
    omega

/-- What both periods divide, their least common multiple does. -/
theorem lcmF_dvd {pa pb x : Int} (ha : 1 ≤ pa) (hb : 1 ≤ pb) (h1 : pa ∣ x) (h2 : pb ∣ x) : lcmF pa pb ∣ x := by
  obtain ⟨X, Y, hg⟩ := bezout pb.toNat pa pb (by omega) (by omega) (Nat.le_refl _)
  obtain ⟨u, hu⟩ := Int.gcd_dvd_left (a := pa) (b := pb)
  have g1 := gcd_pos (b := pb) ha
  unfold lcmF
  generalize (Int.gcd pa pb : Int) = g at *
  have e : pa / g = u := by rw [hu, Int.mul_ediv_cancel_left _ (by omega)]
  rw [e]
  obtain ⟨c, hc⟩ := h1
  obtain ⟨d, hd⟩ := h2
  refine ⟨X * d + Y * c, ?_⟩
  have e1 : g * x = g * (u * pb * (X * d + Y * c)) := by
    have a1 : g * x = pa * X * (pb * d) + pb * Y * (pa * c) := by
      rw [← hd, ← hc, ← Int.add_mul, ← hg]
    have a2 : g * (u * pb * (X * d + Y * c)) = (g * u) * (pb * (X * d + Y * c)) := by grind
    rw [a1, a2, ← hu]; grind
  exact Int.eq_of_mul_eq_mul_left (by omega) e1

/-- In a row of as many integers as it takes until all comes again, just one has two given remainders, if they fit. -/
theorem crt_count {pa pb : Int} (ha : 1 ≤ pa) (hb : 1 ≤ pb) (s u v : Int) :
    sm (fun t => dv pa (s + t - u) * dv pb (s + t - v)) (lcmF pa pb).toNat = dv (Int.gcd pa pb) (u - v) := by
  have L1 := lcmF_pos ha hb
  have La := lcmF_dvd_left pa pb
  have Lb := lcmF_dvd_right pa pb
  by_cases hg : (Int.gcd pa pb : Int) ∣ u - v
  · rw [dv_yes hg]
    obtain ⟨n, n0, na, nb⟩ := crt pa pb u v ha hb (by obtain ⟨c, hc⟩ := hg; exact ⟨-c, by rw [Int.mul_neg]; omega⟩)
    have LD := fun x => @lcmF_dvd pa pb x ha hb
    generalize lcmF pa pb = L at *
    have r0 := Int.emod_nonneg (n - s) (show L ≠ 0 by omega)
    have r1 := Int.emod_lt_of_pos (n - s) (show 0 < L by omega)
    have rq := Int.emod_add_mul_ediv (n - s) L
    have ka : pa ∣ s + (n - s) % L - u := by
      have : s + (n - s) % L - u = (n - u) - L * ((n - s) / L) := by omega
      rw [this]; exact Int.dvd_sub na (Int.dvd_mul_of_dvd_left La)
    have kb : pb ∣ s + (n - s) % L - v := by
      have : s + (n - s) % L - v = (n - v) - L * ((n - s) / L) := by omega
      rw [this]; exact Int.dvd_sub nb (Int.dvd_mul_of_dvd_left Lb)
    refine sm_one (k := ((n - s) % L).toNat) _ (by omega) ?_ ?_
    · rw [Int.toNat_of_nonneg r0, dv_yes ka, dv_yes kb]; rfl
    · intro i hi hne
      by_cases c1 : pa ∣ s + i - u
      · by_cases c2 : pb ∣ s + i - v
        · exfalso
          have d1 : pa ∣ (i : Int) - (n - s) % L := by
            have e : (i : Int) - (n - s) % L = (s + i - u) - (s + (n - s) % L - u) := by omega
            rw [e]; exact Int.dvd_sub c1 ka
          have d2 : pb ∣ (i : Int) - (n - s) % L := by
            have e : (i : Int) - (n - s) % L = (s + i - v) - (s + (n - s) % L - v) := by omega
            rw [e]; exact Int.dvd_sub c2 kb
          have := dvd_small (LD _ d1 d2) (by omega) (by omega)
          omega
        · rw [dv_no c2]; omega
      · rw [dv_no c1]; omega
  · rw [dv_no hg]
    refine sm_zero _ fun i _ => ?_
    by_cases c1 : pa ∣ s + i - u
    · by_cases c2 : pb ∣ s + i - v
      · exfalso
        apply hg
        have e : u - v = (s + i - v) - (s + i - u) := by omega
        rw [e]
        exact Int.dvd_sub (Int.dvd_trans (Int.gcd_dvd_right ..) c2) (Int.dvd_trans (Int.gcd_dvd_left ..) c1)
      · rw [dv_no c2]; omega
    · rw [dv_no c1]; omega

/-- Of the remainders by a number just one is that of two others, if these agree. -/
theorem rem_count {g : Int} (hg : 1 ≤ g) (x y : Int) : sm (fun r => dv g (x - r) * dv g (y - r)) g.toNat = dv g (x - y) := by
  have r0 := Int.emod_nonneg x (show g ≠ 0 by omega)
  have r1 := Int.emod_lt_of_pos x (show 0 < g by omega)
  have rq := Int.emod_add_mul_ediv x g
  have kx : g ∣ x - x % g := ⟨x / g, by omega⟩
  by_cases h : g ∣ x - y
  · rw [dv_yes h]
    refine sm_one (k := (x % g).toNat) _ (by omega) ?_ ?_
    · have ky : g ∣ y - x % g := by
        have e : y - x % g = (x - x % g) - (x - y) := by omega
        rw [e]; exact Int.dvd_sub kx h
      rw [Int.toNat_of_nonneg r0, dv_yes kx, dv_yes ky]; rfl
    · intro i hi hne
      by_cases c : g ∣ x - i
      · exfalso
        have d : g ∣ (i : Int) - x % g := by
          have e : (i : Int) - x % g = (x - x % g) - (x - i) := by omega
          rw [e]; exact Int.dvd_sub kx c
        have := dvd_small d (by omega) (by omega)
        omega
      · rw [dv_no c]; omega
  · rw [dv_no h]
    refine sm_zero _ fun i _ => ?_
    by_cases c1 : g ∣ x - i
    · by_cases c2 : g ∣ y - i
      · exfalso
        apply h
        have e : x - y = (x - i) - (y - i) := by omega
        rw [e]; exact Int.dvd_sub c1 c2
      · rw [dv_no c2]; omega
    · rw [dv_no c1]; omega

theorem succ_div {g n : Int} (hg : 1 ≤ g) : (n % g + 1 < g → (n + 1) / g = n / g ∧ (n + 1) % g = n % g + 1) ∧ (n % g + 1 = g → (n + 1) / g = n / g + 1 ∧ (n + 1) % g = 0) := by
  have r0 := Int.emod_nonneg n (show g ≠ 0 by omega)
  have rq := Int.emod_add_mul_ediv n g
  constructor
  · intro h
    exact (Int.ediv_emod_unique (by omega)).2 ⟨by omega, by omega, h⟩
  · intro h
    exact (Int.ediv_emod_unique (by omega)).2 ⟨by rw [Int.mul_add]; omega, by omega, by omega⟩
/-- How many minutes of an occurrence have a remainder. -/
theorem times_sum {g : Int} (hg : 1 ≤ g) (f r : Int) : ∀ n : Nat, timesF f n g r = sm (fun i => dv g (f + i - r)) n
  | 0 => by
    have r0 := Int.emod_nonneg (r - f) (show g ≠ 0 by omega)
    show timesF f ((0 : Nat) : Int) g r = 0
    unfold timesF
    rw [show (((0 : Nat) : Int)) = 0 from rfl, Int.zero_ediv, Int.zero_emod, if_neg (by omega)]; rfl
  | n + 1 => by
    show _ = sm (fun i => dv g (f + i - r)) n + dv g (f + n - r)
    rw [← times_sum hg f r n]
    have r0 := Int.emod_nonneg (r - f) (show g ≠ 0 by omega)
    have r1 := Int.emod_lt_of_pos (r - f) (show 0 < g by omega)
    have n0 := Int.emod_nonneg (n : Int) (show g ≠ 0 by omega)
    have n1 := Int.emod_lt_of_pos (n : Int) (show 0 < g by omega)
    obtain ⟨s1, s2⟩ := succ_div (n := (n : Int)) hg
    have e : dv g (f + n - r) = if (n : Int) % g = (r - f) % g then 1 else 0 := by
      unfold dv
      have : ((n : Int) % g = (r - f) % g) ↔ (((f + n - r) % g) = 0) := by
        rw [Int.emod_eq_emod_iff_emod_sub_eq_zero]
        rw [show (n : Int) - (r - f) = f + n - r by omega]
      by_cases c : (f + n - r) % g = 0
      · rw [if_pos c, if_pos (this.2 c)]
      · rw [if_neg c, if_neg fun d => c (this.1 d)]
    rw [e]
    unfold timesF
    rw [show (((n + 1 : Nat)) : Int) = (n : Int) + 1 by omega]
    by_cases c : (n : Int) % g + 1 < g
    · obtain ⟨u1, u2⟩ := s1 c
      rw [u1, u2]
      by_cases d1 : (r - f) % g < (n : Int) % g
      · rw [if_pos d1, if_pos (by omega), if_neg (by omega)]; omega
      · by_cases d2 : (n : Int) % g = (r - f) % g
        · rw [if_neg d1, if_pos (by omega), if_pos d2]; omega
        · rw [if_neg d1, if_neg (by omega), if_neg d2]; omega
    · obtain ⟨u1, u2⟩ := s2 (by omega)
      rw [u1, u2, if_neg (by omega)]
      by_cases d1 : (r - f) % g < (n : Int) % g
      · rw [if_pos d1, if_neg (by omega)]
      · rw [if_neg d1, if_pos (by omega)]; omega

/-- Pairs of minutes of an occurrence of each turn that agree. -/
def pairsF (fa la fb lb g : Int) : Int := sm (fun i => sm (fun j => dv g ((fa + i) - (fb + j))) lb.toNat) la.toNat

/-- As many minutes are common in any row of as many as it takes until all comes again. -/
theorem row_count {pa fa la pb fb lb : Int} (ha : TOk pa fa la) (hb : TOk pb fb lb) (s : Int) :
    sm (fun t => iT pa fa la (s + t) * iT pb fb lb (s + t)) (lcmF pa pb).toNat = pairsF fa la fb lb (Int.gcd pa pb) := by
  have e1 : ∀ t : Nat, iT pa fa la (s + t) * iT pb fb lb (s + t) = sm (fun i => sm (fun j => dv pa (s + t - (fa + i)) * dv pb (s + t - (fb + j))) lb.toNat) la.toNat := by
    intro t
    rw [iT_sum ha, iT_sum hb, sm_prod]
  rw [sm_congr _ fun t _ => e1 t, sm_swap]
  refine sm_congr _ fun i _ => ?_
  rw [sm_swap (fun t j => dv pa (s + t - (fa + i)) * dv pb (s + t - (fb + j)))]
  exact sm_congr _ fun j _ => crt_count ha.1 hb.1 s (fa + i) (fb + j)

theorem oftenF_sm (fa la fb lb g : Int) : ∀ k : Nat, oftenF fa la fb lb g k = sm (fun r => timesF fa la g r * timesF fb lb g r) k
  | 0 => rfl
  | k + 1 => by
    show oftenF fa la fb lb g k + timesF fa la g k * timesF fb lb g k = _
    rw [oftenF_sm fa la fb lb g k]; rfl
/-- What Often adds up are these pairs. -/
theorem often_pairs {fa la fb lb g : Int} (hg : 1 ≤ g) (h1 : 0 ≤ la) (h2 : 0 ≤ lb) : oftenF fa la fb lb g g.toNat = pairsF fa la fb lb g := by
  rw [oftenF_sm]
  have e1 : ∀ r : Nat, timesF fa la g r * timesF fb lb g r = sm (fun i => sm (fun j => dv g ((fa + i) - r) * dv g ((fb + j) - r)) lb.toNat) la.toNat := by
    intro r
    have a := times_sum hg fa r la.toNat
    have b := times_sum hg fb r lb.toNat
    rw [Int.toNat_of_nonneg h1] at a
    rw [Int.toNat_of_nonneg h2] at b
    rw [a, b, sm_prod]
  rw [sm_congr _ fun r _ => e1 r, sm_swap]
  refine sm_congr _ fun i _ => ?_
  rw [sm_swap (fun r j => dv g ((fa + i) - r) * dv g ((fb + j) - r))]
  exact sm_congr _ fun j _ => rem_count hg (fa + i) (fb + j)

/-- How many integers from 0 up to a number are in a turn. -/
def belowF (p f l n : Int) : Int :=
  n / p * l + max 0 (min (n % p) (f + l) - min (n % p) f) + max 0 (min (n % p) (f + l - p))
theorem below_sum {p f l : Int} (h : TOk p f l) : ∀ n : Nat, belowF p f l n = sm (fun i => iT p f l i) n
  | 0 => by
    obtain ⟨p1, _, f0, f1, l1, l2⟩ := h
    show belowF p f l ((0 : Nat) : Int) = 0
    unfold belowF
    rw [show (((0 : Nat) : Int)) = 0 from rfl, Int.zero_ediv, Int.zero_emod]; omega
  | n + 1 => by
    show _ = sm (fun i => iT p f l i) n + iT p f l n
    rw [← below_sum h n]
    obtain ⟨p1, _, f0, f1, l1, l2⟩ := h
    have n0 := Int.emod_nonneg (n : Int) (show p ≠ 0 by omega)
    have n1 := Int.emod_lt_of_pos (n : Int) (show 0 < p by omega)
    have nq := Int.emod_add_mul_ediv (n : Int) p
    obtain ⟨s1, s2⟩ := succ_div (n := (n : Int)) p1
    have e : ((n : Int) - f) % p = if f ≤ (n : Int) % p then (n : Int) % p - f else (n : Int) % p - f + p := by
      by_cases c : f ≤ (n : Int) % p
      · rw [if_pos c]
        exact ((Int.ediv_emod_unique (a := (n : Int) - f) (b := p) (r := (n : Int) % p - f) (q := (n : Int) / p) (by omega)).2 ⟨by omega, by omega, by omega⟩).2
      · rw [if_neg c]
        exact ((Int.ediv_emod_unique (a := (n : Int) - f) (b := p) (r := (n : Int) % p - f + p) (q := (n : Int) / p - 1) (by omega)).2 ⟨by rw [Int.mul_sub]; omega, by omega, by omega⟩).2
    unfold iT
    rw [e]
    unfold belowF
    rw [show (((n + 1 : Nat)) : Int) = (n : Int) + 1 by omega]
    by_cases c : (n : Int) % p + 1 < p
    · obtain ⟨u1, u2⟩ := s1 c
      rw [u1, u2]
      generalize (n : Int) / p * l = Q
      generalize (n : Int) % p = m at *
      split <;> split <;> omega
    · obtain ⟨u1, u2⟩ := s2 (by omega)
      rw [u1, u2, Int.add_mul]
      generalize (n : Int) / p * l = Q
      generalize (n : Int) % p = m at *
      split <;> split <;> omega
theorem below_diff {p f l : Int} (h : TOk p f l) {x : Int} {d : Nat} (hx : 0 ≤ x) : belowF p f l (x + d) - belowF p f l x = sm (fun i => iT p f l (x + i)) d := by
  have a := below_sum h (x.toNat + d)
  have b := below_sum h x.toNat
  rw [sm_append, ← b] at a
  rw [show ((x.toNat + d : Nat) : Int) = x + d by omega, show ((x.toNat : Nat) : Int) = x by omega] at a
  rw [a]
  rw [sm_congr d (f := fun i => iT p f l (((x.toNat + i : Nat)) : Int)) (g := fun i => iT p f l (x + i)) fun i _ => by show iT p f l _ = iT p f l _; rw [show ((x.toNat + i : Nat) : Int) = x + i by omega]]
  omega

/-- Of as many periods as it takes until all comes again just one brings a remainder, if it fits. -/
theorem per_count {pa pb : Int} (ha : 1 ≤ pa) (hb : 1 ≤ pb) (u v : Int) :
    sm (fun k => dv pb (u + k * pa - v)) (lcmF pa pb / pa).toNat = dv (Int.gcd pa pb) (u - v) := by
  have L1 := lcmF_pos ha hb
  have La := lcmF_dvd_left pa pb
  have Lb := lcmF_dvd_right pa pb
  have LD := fun x => @lcmF_dvd pa pb x ha hb
  have Lq : lcmF pa pb / pa * pa = lcmF pa pb := Int.ediv_mul_cancel La
  by_cases hg : (Int.gcd pa pb : Int) ∣ u - v
  · rw [dv_yes hg]
    obtain ⟨n, n0, na, nb⟩ := crt pa pb u v ha hb (by obtain ⟨c, hc⟩ := hg; exact ⟨-c, by rw [Int.mul_neg]; omega⟩)
    generalize lcmF pa pb = L at *
    have r0 := Int.emod_nonneg (n - u) (show L ≠ 0 by omega)
    have r1 := Int.emod_lt_of_pos (n - u) (show 0 < L by omega)
    have rq := Int.emod_add_mul_ediv (n - u) L
    have ka : pa ∣ (n - u) % L := by
      have e : (n - u) % L = (n - u) - L * ((n - u) / L) := by omega
      rw [e]; exact Int.dvd_sub na (Int.dvd_mul_of_dvd_left La)
    have kb : pb ∣ u + (n - u) % L - v := by
      have e : u + (n - u) % L - v = (n - v) - L * ((n - u) / L) := by omega
      rw [e]; exact Int.dvd_sub nb (Int.dvd_mul_of_dvd_left Lb)
    obtain ⟨c, hc⟩ := ka
    generalize (n - u) % L = R at *
    have c0 : 0 ≤ c := Int.not_lt.1 fun h => by
      have : pa * c ≤ pa * (-1) := Int.mul_le_mul_of_nonneg_left (by omega) (by omega)
      omega
    have c1 : c < L / pa := Int.not_le.1 fun h => by
      have : L / pa * pa ≤ c * pa := Int.mul_le_mul_of_nonneg_right h (by omega)
      rw [Int.mul_comm c pa] at this
      omega
    refine sm_one (k := c.toNat) _ (by omega) ?_ ?_
    · rw [Int.toNat_of_nonneg c0, Int.mul_comm c pa, ← hc, dv_yes kb]
    · intro i hi hne
      refine dv_no fun hd => ?_
      have d1 : pa ∣ (i : Int) * pa - c * pa := ⟨(i : Int) - c, by rw [Int.mul_sub, Int.mul_comm pa i, Int.mul_comm pa c]⟩
      have d2 : pb ∣ (i : Int) * pa - c * pa := by
        have e : (i : Int) * pa - c * pa = (u + i * pa - v) - (u + R - v) := by rw [hc, Int.mul_comm pa c]; omega
        rw [e]; exact Int.dvd_sub hd kb
      have b1 : (i : Int) * pa ≤ (L / pa - 1) * pa := Int.mul_le_mul_of_nonneg_right (by omega) (by omega)
      have b2 : c * pa ≤ (L / pa - 1) * pa := Int.mul_le_mul_of_nonneg_right (by omega) (by omega)
      have b3 : 0 ≤ (i : Int) * pa := Int.mul_nonneg (by omega) (by omega)
      have b4 : 0 ≤ c * pa := Int.mul_nonneg (by omega) (by omega)
      rw [Int.sub_mul, Lq] at b1 b2
      have z := dvd_small (LD _ d1 d2) (by omega) (by omega)
      have : (i : Int) * pa = c * pa := by omega
      have := Int.eq_of_mul_eq_mul_right (by omega) this
      omega
  · rw [dv_no hg]
    refine sm_zero _ fun i _ => dv_no fun hd => hg ?_
    have e : u - v = (u + i * pa - v) - i * pa := by omega
    rw [e]
    exact Int.dvd_sub (Int.dvd_trans (Int.gcd_dvd_right ..) hd) (Int.dvd_mul_of_dvd_right (Int.gcd_dvd_left ..))

/-- What the specification adds up: of each occurrence of a turn, how many minutes are in the other one. -/
def rOftenF (pa fa la pb fb lb : Int) (k : Nat) : Int :=
  sm (fun k => belowF pb fb lb (fa + k * pa + la) - belowF pb fb lb (fa + k * pa)) k
theorem rOften_pairs {pa fa la pb fb lb : Int} (ha : TOk pa fa la) (hb : TOk pb fb lb) :
    rOftenF pa fa la pb fb lb (lcmF pa pb / pa).toNat = pairsF fa la fb lb (Int.gcd pa pb) := by
  obtain ⟨a1, a2, a3, a4, a5, a6⟩ := id ha
  unfold rOftenF
  have e1 : ∀ k : Nat, belowF pb fb lb (fa + k * pa + la) - belowF pb fb lb (fa + k * pa) = sm (fun i => sm (fun j => dv pb ((fa + i) + k * pa - (fb + j))) lb.toNat) la.toNat := by
    intro k
    have b := below_diff hb (x := fa + k * pa) (d := la.toNat) (by have := Int.mul_nonneg (show 0 ≤ (k : Int) by omega) (show 0 ≤ pa by omega); omega)
    rw [Int.toNat_of_nonneg (by omega)] at b
    rw [b]
    refine sm_congr _ fun i _ => ?_
    rw [iT_sum hb]
    exact sm_congr _ fun j _ => by show dv pb _ = dv pb _; rw [show fa + (k : Int) * pa + i - (fb + j) = fa + i + k * pa - (fb + j) by omega]
  rw [sm_congr _ fun k _ => e1 k, sm_swap]
  refine sm_congr _ fun i _ => ?_
  rw [sm_swap (fun k j => dv pb ((fa + i) + k * pa - (fb + j)))]
  exact sm_congr _ fun j _ => per_count a1 hb.1 (fa + i) (fb + j)
/-- Both ways come to the same. -/
theorem often_same {pa fa la pb fb lb : Int} (ha : TOk pa fa la) (hb : TOk pb fb lb) :
    rOftenF pa fa la pb fb lb (lcmF pa pb / pa).toNat = oftenF fa la fb lb (Int.gcd pa pb) (Int.gcd pa pb) := by
  have g1 := gcd_pos (b := pb) ha.1
  have h := often_pairs (fa := fa) (la := la) (fb := fb) (lb := lb) g1 (by have := ha.2.2.2.2.1; omega) (by have := hb.2.2.2.2.1; omega)
  rw [Int.toNat_natCast] at h
  rw [rOften_pairs ha hb, h]
theorem belowF_bd {p f l n : Int} (h : TOk p f l) (hn : 0 ≤ n) : 0 ≤ belowF p f l n ∧ belowF p f l n ≤ n := by
  have a := below_sum h n.toNat
  rw [Int.toNat_of_nonneg hn] at a
  rw [a]
  have b := sm_bd (f := fun i => iT p f l i) (fun i => by unfold iT; split <;> omega) n.toNat
  omega
end Go.Proofs.YtlhgpeelenelbaaDoor

/- Contracts of the specification's below and Often. -/
namespace Go.Proofs.YtlhgpeelenelbaaDoor
open Go.RowKit

set_option maxHeartbeats 2000000 in
theorem rbelow_any (p f l n : Int) (w : World) (h : TOk p f l) (h1 : 0 ≤ n) (h2 : n ≤ 9000000000000) :
    Calls Tryd.prog 86 #[tv p f l, .int .i64 n] w fun e w' => e = .returned (.int .i64 (belowF p f l n)) ∧ Below w.heap.size w w' := by
  obtain ⟨a1, a2, a3, a4, a5, a6⟩ := h
  have hz : (p == 0) = false := beq_eq_false_iff_ne.2 (by omega)
  have e3 : 0 ≤ n % p := Int.emod_nonneg _ (by omega)
  have e4 : n % p < p := Int.emod_lt_of_pos _ (by omega)
  have e5 : 0 ≤ n / p := Int.ediv_nonneg (by omega) (by omega)
  have e6 : n / p ≤ n := Int.ediv_le_self _ (by omega)
  have e7 : 0 ≤ n / p * l := Int.mul_nonneg e5 (by omega)
  have e8 : n / p * l ≤ 9000000000000 * 40320 := Int.mul_le_mul (by omega) (by omega) (by omega) (by omega)
  have H : belowF p f l n = n / p * l + max 0 (min (n % p) (f + l) - min (n % p) f) + max 0 (min (n % p) (f + l - p)) := rfl
  have H' := Lib.hid H
  clear H
  by_cases c1 : f + l < n % p
  all_goals by_cases c2 : f < n % p
  all_goals by_cases c3 : f + l - p < n % p
  all_goals by_cases c4 : 0 < f + l - p
  all_goals by_cases c5 : 0 < n % p
  all_goals first
    | omega
    | (go_enter Tryd.func86, Tryd.ntmps86
       go_wp2_with fail
       go_ret
       exact ⟨ret_int (by rw [H'.out]; generalize n / p * l = Q at *; generalize n % p = m at *; omega), (Below.refl _ _).alloc (Nat.le_refl _) _⟩)

set_option maxHeartbeats 1000000 in
theorem rOften_bad (pa fa la pb fb lb : Int) (w : World) (h : ¬ TOk pa fa la ∨ ¬ TOk pb fb lb) :
    Calls Tryd.prog 30 #[tv pa fa la, tv pb fb lb] w fun e w' => e = .returned (.tuple #[.int .i64 0, .int .i64 0, .int .i64 1]) ∧ Below w.heap.size w w' := by
  have S0 := Lib.hid (SS.new (w := w) (pa := pa) (fa := fa) (la := la) (pb := pb) (fb := fb) (lb := lb) 27 27)
  go_enter Tryd.func30, Tryd.ntmps30
  go_wp2_with fail
  refine (rpair_any pa fa la pb fb lb 1 _ (.inr ⟨h, rfl⟩)).mono ?_
  rintro e w1 ⟨rfl, h1⟩
  go_wp2_with fail
  go_ret3
  exact ⟨rfl, (SS.below S0.out h1).2.2.2.2.2.2.2⟩

theorem rOftenF_bd {pa fa la pb fb lb : Int} (ha : TOk pa fa la) (hb : TOk pb fb lb) (k : Nat) :
    0 ≤ rOftenF pa fa la pb fb lb k ∧ rOftenF pa fa la pb fb lb k ≤ k * la := by
  obtain ⟨a1, a2, a3, a4, a5, a6⟩ := id ha
  induction k with
  | zero => exact ⟨Int.le_refl _, by simp [rOftenF, sm]⟩
  | succ k ih =>
    show 0 ≤ rOftenF pa fa la pb fb lb k + (belowF pb fb lb (fa + k * pa + la) - belowF pb fb lb (fa + k * pa)) ∧ rOftenF pa fa la pb fb lb k + (belowF pb fb lb (fa + k * pa + la) - belowF pb fb lb (fa + k * pa)) ≤ _
    have b := below_diff hb (x := fa + k * pa) (d := la.toNat) (by have := Int.mul_nonneg (show 0 ≤ (k : Int) by omega) (show 0 ≤ pa by omega); omega)
    rw [Int.toNat_of_nonneg (by omega)] at b
    rw [b]
    have c := sm_bd (f := fun i => iT pb fb lb (fa + k * pa + i)) (fun i => by unfold iT; split <;> omega) la.toNat
    rw [Int.toNat_of_nonneg (by omega)] at c
    rw [show ((k + 1 : Nat) : Int) * la = k * la + la by rw [show ((k + 1 : Nat) : Int) = (k : Int) + 1 by omega, Int.add_mul]; omega]
    omega

set_option maxHeartbeats 2000000 in
set_option maxRecDepth 100000 in
theorem rOften_ok (pa fa la pb fb lb : Int) (w : World) (ha : TOk pa fa la) (hb : TOk pb fb lb) :
    Calls Tryd.prog 30 #[tv pa fa la, tv pb fb lb] w fun e w' =>
      e = .returned (.tuple #[.int .i64 (oftenF fa la fb lb (Int.gcd pa pb) (Int.gcd pa pb)), .int .i64 (lcmF pa pb), .int .i64 0]) ∧ Below w.heap.size w w' := by
  rw [← often_same ha hb]
  have l1 := lcmF_pos ha.1 hb.1
  have l2 := lcmF_le ha.1 hb.1 ha.2.1 hb.2.1
  have l3 := lcmF_dvd_left pa pb
  have OB := Lib.hid fun k => rOftenF_bd ha hb k
  obtain ⟨a1, a2, a3, a4, a5, a6⟩ := id ha
  obtain ⟨b1, b2, b3, b4, b5, b6⟩ := id hb
  have S0 := Lib.hid (SS.new (w := w) (pa := pa) (fa := fa) (la := la) (pb := pb) (fb := fb) (lb := lb) 27 27)
  have M := fun w => rmultiple_any pa pb w (by omega) (by omega) (by omega) (by omega)
  change ∀ w, Calls Tryd.prog 83 #[.int .i64 pa, .int .i64 pb] w fun e w' => e = .returned (.int .i64 (lcmF pa pb)) ∧ w = w' at M
  generalize lcmF pa pb = L at *
  have M' := Lib.hid M
  obtain ⟨q, hq⟩ := l3
  have hz : (pa == 0) = false := beq_eq_false_iff_ne.2 (by omega)
  have dq : L / pa = q := by rw [hq]; exact Int.mul_ediv_cancel_left _ (by omega)
  have q1 : 1 ≤ q := Int.not_lt.1 fun h => by
    have : pa * q ≤ pa * 0 := Int.mul_le_mul_of_nonneg_left (by omega) (by omega)
    omega
  have q2 : q ≤ L := by rw [← dq]; exact Int.ediv_le_self _ (by omega)
  obtain ⟨qn, rfl⟩ : ∃ n : Nat, q = n := ⟨q.toNat, by omega⟩
  rw [dq, Int.toNat_natCast]
  have DQ := Lib.hid dq
  have HQ := Lib.hid hq
  clear M hq dq
  go_enter Tryd.func30, Tryd.ntmps30
  go_wp2_with fail
  refine (rpair_any pa fa la pb fb lb 0 _ (.inl ⟨ha, hb, rfl⟩)).mono ?_
  rintro e w1 ⟨rfl, h1⟩
  have S1 := SS.below S0.out h1
  clear h1 S0
  have S1' := Lib.hid S1
  obtain ⟨t0, t1, t2, t3, t4, t5, t6, _⟩ := S1
  go_wp2_with fail
  refine (M'.out _).mono ?_
  rintro e w2 ⟨rfl, rfl⟩
  go_wp2_with fail
  go_loopw [9, 10] (fun u v wr => ∃ k : Nat, v = .int .i64 k ∧ k ≤ qn ∧ u = .int .i64 (rOftenF pa fa la pb fb lb k) ∧ SS w pa fa la pb fb lb wr) (fun _ v _ => (qn - (intOf v).toNat))
  case atStart => exact ⟨0, rfl, by omega, rfl, S1'.out⟩
  case round =>
    obtain ⟨k, rfl, hk, rfl, S3⟩ := hrel
    have S3' := Lib.hid S3
    obtain ⟨t0, t1, t2, t3, t4, t5, t6, _⟩ := S3
    have ⟨o1, o2⟩ := OB.out k
    have o3 : (k : Int) * la ≤ L := by
      rw [HQ.out, Int.mul_comm pa (qn : Int)]; exact Int.mul_le_mul (by omega) a6 (by omega) (by omega)
    have c0 : 0 ≤ (k : Int) * pa := Int.mul_nonneg (by omega) (by omega)
    by_cases hlt : (k : Int) < L / pa
    · have hkq : k < qn := by have := DQ.out; omega
      have c1 : (k : Int) * pa ≤ L := by
        rw [HQ.out, Int.mul_comm pa (qn : Int)]; exact Int.mul_le_mul_of_nonneg_right (by omega) (by omega)
      have Cu := Lib.hid fun w => rbelow_any pb fb lb (fa + k * pa + la) w hb (by omega) (by omega)
      have Cv := Lib.hid fun w => rbelow_any pb fb lb (fa + k * pa) w hb (by omega) (by omega)
      have ⟨u1, u2⟩ := belowF_bd (n := fa + k * pa + la) hb (by omega)
      have ⟨v1, v2⟩ := belowF_bd (n := fa + k * pa) hb (by omega)
      have HO : Hid (rOftenF pa fa la pb fb lb (k + 1) = rOftenF pa fa la pb fb lb k + (belowF pb fb lb (fa + k * pa + la) - belowF pb fb lb (fa + k * pa))) := Lib.hid rfl
      generalize belowF pb fb lb (fa + k * pa + la) = bu at *
      generalize belowF pb fb lb (fa + k * pa) = bv at *
      generalize rOftenF pa fa la pb fb lb k = on at *
      have S3e : SSd w pa fa la pb fb lb wr := S3'.out
      have W1 : IntKind.i64.wrap ((k : Int) * pa) = k * pa := IntWalk.i64_in _ (by omega)
      go_wp2_with fail
      generalize hx : fa + (k : Int) * pa = x at *
      generalize hy : x + la = y at *
      have W2 : IntKind.i64.wrap (x + la) = y := by rw [hy]; exact IntWalk.i64_in _ (by omega)
      have W3 : IntKind.i64.wrap (on + bu) = on + bu := IntWalk.i64_in _ (by omega)
      have W4 : IntKind.i64.wrap (on + bu - bv) = on + (bu - bv) := by rw [show on + bu - bv = on + (bu - bv) by omega]; exact IntWalk.i64_in _ (by omega)
      have R := Lib.hid (show IntKind.i64.wrap (IntKind.i64.wrap (on + bu) - bv) = on + (bu - bv) by rw [W3, W4])
      clear hx hy W3 W4
      go_region_held3 (SS w pa fa la pb fb lb) ((refine SSd.out ?_; with_reducible (first | exact S5 | exact S4 | exact SSd.drew S3e)))
        (first
          | (go_at_call 86; with_reducible refine (Cu.out _).mono ?_; rintro e w4 ⟨rfl, h4⟩; have S4 : SSd w pa fa la pb fb lb w4 := SSd.below (SSd.drew S3e) h4; clear h4)
          | (go_at_call 86; with_reducible refine (Cv.out _).mono ?_; rintro e w5 ⟨rfl, h5⟩; have S5 : SSd w pa fa la pb fb lb w5 := SSd.below S4 h5; clear h5))
      all_goals go_wp2_with fail
      go_roundw
      case rel => exact ⟨k + 1, by go_num, by omega, by rw [HO.out]; exact congrArg _ R.out, S5⟩
      case measure => show qn - ((k : Int) + 1).toNat < qn - (k : Int).toNat; omega
    · obtain rfl : k = qn := by have := DQ.out; omega
      go_wp2_with fail
      go_ret3
      exact ⟨rfl, S3'.out.2.2.2.2.2.2.2⟩
end Go.Proofs.YtlhgpeelenelbaaDoor

/- The law TurnMeets, its calls met by their contracts; sanity is a hypothesis here. -/
namespace Go.Proofs.YtlhgpeelenelbaaDoor
open Go.RowKit

theorem FirstIs.exists_ {pa fa la pb fb lb : Int} (ha : TOk pa fa la) (hb : TOk pb fb lb) : ∃ N c, FirstIs pa fa la pb fb lb N c := by
  cases h : kaB la ((fb - fa) % (Int.gcd pa pb : Int)) lb (Int.gcd pa pb)
  · obtain ⟨n, _, n1, n2⟩ := meets ha hb h
    obtain ⟨N, h0, h1, h2, h3⟩ := first_least ha hb ⟨n1, n2⟩
    have hl := lcmF_le ha.1 hb.1 ha.2.1 hb.2.1
    exact ⟨N, 0, .inl ⟨rfl, h0, by omega, h2, h3⟩⟩
  · exact ⟨0, 5, .inr ⟨rfl, rfl, fun m _ => apart_none ha hb (gcd_pos ha.1) (Int.gcd_dvd_left ..) (Int.gcd_dvd_right ..) h m⟩⟩

theorem not_both {p q : Prop} (h : ¬ (p ∧ q)) : ¬ p ∨ ¬ q := by
  by_cases k : p
  · exact .inr fun c => h ⟨k, c⟩
  · exact .inl k

/-- First of both packages returns the same. -/
theorem first_same (pa fa la pb fb lb : Int) : ∃ (m c : Int),
    (∀ W, Calls Tryd.prog 27 #[tv pa fa la, tv pb fb lb] W fun e w' => e = .returned (.tuple #[.int .i64 m, .int .i64 c]) ∧ Below W.heap.size W w') ∧
    (∀ W, Calls Tryd.prog 28 #[tv pa fa la, tv pb fb lb] W fun e w' => e = .returned (.tuple #[.int .i64 m, .int .i64 c]) ∧ Below W.heap.size W w') := by
  by_cases h : TOk pa fa la ∧ TOk pb fb lb
  · obtain ⟨m, c, hm⟩ := FirstIs.exists_ h.1 h.2
    refine ⟨m, c, fun W => (first_ok pa fa la pb fb lb W h.1 h.2).mono ?_, fun W => (rfirst_ok pa fa la pb fb lb W h.1 h.2).mono ?_⟩
    all_goals
      rintro e w' ⟨m', c', hm', rfl, hb⟩
      obtain ⟨rfl, rfl⟩ := hm.unique hm'
      exact ⟨rfl, hb⟩
  · exact ⟨0, 1, fun W => first_bad pa fa la pb fb lb W (not_both h), fun W => rfirst_bad pa fa la pb fb lb W (not_both h)⟩
theorem often_both (pa fa la pb fb lb : Int) : ∃ (n l c : Int),
    (∀ W, Calls Tryd.prog 29 #[tv pa fa la, tv pb fb lb] W fun e w' => e = .returned (.tuple #[.int .i64 n, .int .i64 l, .int .i64 c]) ∧ Below W.heap.size W w') ∧
    (∀ W, Calls Tryd.prog 30 #[tv pa fa la, tv pb fb lb] W fun e w' => e = .returned (.tuple #[.int .i64 n, .int .i64 l, .int .i64 c]) ∧ Below W.heap.size W w') := by
  by_cases h : TOk pa fa la ∧ TOk pb fb lb
  · exact ⟨_, _, 0, fun W => often_ok pa fa la pb fb lb W h.1 h.2, fun W => rOften_ok pa fa la pb fb lb W h.1 h.2⟩
  · exact ⟨0, 0, 1, fun W => often_bad pa fa la pb fb lb W (not_both h), fun W => rOften_bad pa fa la pb fb lb W (not_both h)⟩

set_option maxHeartbeats 4000000 in
set_option maxRecDepth 100000 in
theorem turnMeets_calls (hsan : ∀ W, Calls Tryd.prog 16 #[] W fun e w' => e = .returned (.bool true) ∧ Below W.heap.size W w')
    (pa fa la pb fb lb : Int) (w : World) :
    Calls Tryd.prog 4 #[tv pa fa la, tv pb fb lb] w fun e w' => e = .returned (.bool true) ∧ Below w.heap.size w w' := by
  obtain ⟨am, ac, A1, A2⟩ := first_same pa fa la pb fb lb
  obtain ⟨on, ol, oc, O1, O2⟩ := often_both pa fa la pb fb lb
  have HA1 := Lib.hid A1
  have HA2 := Lib.hid A2
  have HO1 := Lib.hid O1
  have HO2 := Lib.hid O2
  have HS := Lib.hid hsan
  clear A1 A2 O1 O2 hsan
  have S0 := Lib.hid (SS.new (w := w) (pa := pa) (fa := fa) (la := la) (pb := pb) (fb := fb) (lb := lb) 27 27)
  go_enter Tryd.func4, Tryd.ntmps4
  go_wp2_with fail
  refine (HA1.out _).mono ?_
  rintro e w1 ⟨rfl, h1⟩
  have S1 := SS.below S0.out h1
  clear h1 S0
  have S1' := Lib.hid S1
  obtain ⟨t0, t1, t2, t3, t4, t5, t6, _⟩ := S1
  go_wp2_with fail
  refine (HA2.out _).mono ?_
  rintro e w2 ⟨rfl, h2⟩
  have S2 := SS.below S1'.out h2
  clear h2 S1' t0 t1 t2 t3 t4 t5 t6
  have S2' := Lib.hid S2
  obtain ⟨t0, t1, t2, t3, t4, t5, t6, _⟩ := S2
  go_wp2_with fail
  refine (HO1.out _).mono ?_
  rintro e w3 ⟨rfl, h3⟩
  have S3 := SS.below S2'.out h3
  clear h3 S2' t0 t1 t2 t3 t4 t5 t6
  have S3' := Lib.hid S3
  obtain ⟨t0, t1, t2, t3, t4, t5, t6, _⟩ := S3
  go_wp2_with fail
  refine (HO2.out _).mono ?_
  rintro e w4 ⟨rfl, h4⟩
  have S4 := SS.below S3'.out h4
  clear h4 S3' t0 t1 t2 t3 t4 t5 t6
  have S4' := Lib.hid S4
  have S4d : SSd w pa fa la pb fb lb w4 := S4
  obtain ⟨t0, t1, t2, t3, t4, t5, t6, _⟩ := S4
  go_wp2_with fail
  refine (HS.out _).mono ?_
  rintro e w5 ⟨rfl, h5⟩
  have S5 := SS.below S4'.out h5
  clear h5 t0 t1 t2 t3 t4 t5 t6
  go_wp2_with fail
  go_ret
  exact ⟨rfl, S5.2.2.2.2.2.2.2⟩
end Go.Proofs.YtlhgpeelenelbaaDoor

/- Plain mathematics: what the law TurnResidues asks of First, Apart, Often and CheckApart. -/
namespace Go.Proofs.YtlhgpeelenelbaaDoor

theorem iT_one {p f l n : Int} : iT p f l n = 1 ↔ inT p f l n := by
  unfold iT inT; split <;> simp_all
theorem iT_cases (p f l n : Int) : iT p f l n = 0 ∨ iT p f l n = 1 := by
  unfold iT; split <;> simp
theorem iT_both (pa fa la pb fb lb n : Int) : (iT pa fa la n * iT pb fb lb n = 1 ∧ both pa fa la pb fb lb n) ∨ (iT pa fa la n * iT pb fb lb n = 0 ∧ ¬ both pa fa la pb fb lb n) := by
  unfold both
  rw [← iT_one, ← iT_one]
  rcases iT_cases pa fa la n with h | h <;> rcases iT_cases pb fb lb n with k | k <;> rw [h, k] <;> simp
theorem sm_zero_all {f : Nat → Int} (h : ∀ i, 0 ≤ f i) : ∀ n : Nat, sm f n = 0 → ∀ i, i < n → f i = 0
  | 0, _, i, hi => by omega
  | n + 1, hs, i, hi => by
    have hs' : sm f n + f n = 0 := hs
    have a : 0 ≤ sm f n := by
      clear hs hs' hi
      induction n with
      | zero => exact Int.le_refl _
      | succ n ih => have b : sm f (n + 1) = sm f n + f n := rfl; have := h n; omega
    have b := h n
    by_cases c : i = n
    · subst c; omega
    · exact sm_zero_all h n (by omega) i (by omega)

/-- All that the law asks. -/
structure ResIs (pa fa la pb fb lb N c m : Int) (b : Bool) (n l : Int) : Prop where
  hc : (c = 0 ∧ b = false ∧ n ≠ 0) ∨ (c = 5 ∧ b = true ∧ n = 0)
  l1 : 1 ≤ l
  l2 : l ≤ 40320 * 40320
  za : l % pa = 0
  zb : l % pb = 0
  N0 : 0 ≤ N
  N1 : N < l
  hN : c = 0 → inT pa fa la N ∧ inT pb fb lb N ∧ inT pa fa la (N + 3 * l) ∧ inT pb fb lb (N + 3 * l)
  hm : b = true → apB pa fa la pb fb lb m = true
  hs : ∀ m', apB pa fa la pb fb lb m' = true → b = true ∧ m ≤ m'
  hn : ∀ s, n = sm (fun t => iT pa fa la (s + t) * iT pb fb lb (s + t)) l.toNat
  hk : ∀ k, inT pa fa la k → inT pb fb lb k → N ≤ k % l
  hb : 0 ≤ n ∧ n ≤ l

theorem apB_parts {pa fa la pb fb lb m : Int} (h : apB pa fa la pb fb lb m = true) : 1 ≤ m ∧ m ∣ pa ∧ m ∣ pb ∧ kaB la ((fb - fa) % m) lb m = true := by
  unfold apB at h
  rw [Bool.and_eq_true] at h
  have h' : 1 ≤ m ∧ pa % m = 0 ∧ pb % m = 0 := by simpa [dvB] using h.1
  exact ⟨h'.1, Int.dvd_of_emod_eq_zero h'.2.1, Int.dvd_of_emod_eq_zero h'.2.2, h.2⟩

theorem res_is {pa fa la pb fb lb N c m : Int} {b : Bool} (ha : TOk pa fa la) (hb : TOk pb fb lb) (hF : FirstIs pa fa la pb fb lb N c) (hA : ApartIs pa fa la pb fb lb (Int.gcd pa pb) m b) :
    ResIs pa fa la pb fb lb N c m b (oftenF fa la fb lb (Int.gcd pa pb) (Int.gcd pa pb)) (lcmF pa pb) := by
  have l1 := lcmF_pos ha.1 hb.1
  have l2 := lcmF_le ha.1 hb.1 ha.2.1 hb.2.1
  have La := lcmF_dvd_left pa pb
  have Lb := lcmF_dvd_right pa pb
  have g1 := gcd_pos (b := pb) ha.1
  have hn : ∀ s, oftenF fa la fb lb (Int.gcd pa pb) (Int.gcd pa pb) = sm (fun t => iT pa fa la (s + t) * iT pb fb lb (s + t)) (lcmF pa pb).toNat := by
    intro s
    have h := often_pairs (fa := fa) (la := la) (fb := fb) (lb := lb) g1 (by have := ha.2.2.2.2.1; omega) (by have := hb.2.2.2.2.1; omega)
    rw [Int.toNat_natCast] at h
    rw [h, row_count ha hb s]
  have hcut : ∀ i : Nat, 0 ≤ iT pa fa la ((0 : Int) + i) * iT pb fb lb ((0 : Int) + i) := by
    intro i
    rcases iT_both pa fa la pb fb lb ((0 : Int) + i) with h | h <;> omega
  have hbd : ∀ (s : Int) (i : Nat), 0 ≤ iT pa fa la (s + i) * iT pb fb lb (s + i) ∧ iT pa fa la (s + i) * iT pb fb lb (s + i) ≤ 1 := by
    intro s i
    rcases iT_both pa fa la pb fb lb (s + i) with h | h <;> omega
  have hsize : 0 ≤ oftenF fa la fb lb (Int.gcd pa pb) (Int.gcd pa pb) ∧ oftenF fa la fb lb (Int.gcd pa pb) (Int.gcd pa pb) ≤ lcmF pa pb := by
    rw [hn 0]
    have := sm_bd (hbd 0) (lcmF pa pb).toNat
    omega
  -- apart exactly if none meets
  have hap : ∀ m', apB pa fa la pb fb lb m' = true → ∀ n, ¬ both pa fa la pb fb lb n := by
    intro m' h n hn
    obtain ⟨h1, h2, h3, h4⟩ := apB_parts h
    exact apart_none ha hb h1 h2 h3 h4 n hn
  have hmin : ∀ m', apB pa fa la pb fb lb m' = true → b = true ∧ m ≤ m' := by
    intro m' h
    have k := apB_parts h
    rcases hA with ⟨hb', m0, m1, m2, m3⟩ | ⟨rfl, rfl, m3⟩
    · refine ⟨hb', ?_⟩
      by_cases d : m ≤ m'
      · exact d
      · rw [m3 m' (by omega) (by omega)] at h; cases h
    · have hle : m' ≤ (Int.gcd pa pb : Int) := Int.le_of_dvd (by omega) (Int.dvd_coe_gcd k.2.1 k.2.2.1)
      rw [m3 m' (by omega) hle] at h; cases h
  rcases hF with ⟨rfl, N0, _, hN, hl⟩ | ⟨rfl, rfl, hno⟩
  · have hbf : b = false := by
      cases hb' : b with
      | false => rfl
      | true =>
        subst hb'
        rcases hA with ⟨_, _, _, m2, _⟩ | ⟨h, _⟩
        · exact absurd hN (hap m m2 N)
        · cases h
    have hNl : N < lcmF pa pb := by
      have hr0 := Int.emod_nonneg N (show lcmF pa pb ≠ 0 by omega)
      have hr1 := Int.emod_lt_of_pos N (show 0 < lcmF pa pb by omega)
      by_cases d : N < lcmF pa pb
      · exact d
      · exact absurd (both_mod hN) (hl _ hr0 (by omega))
    refine ⟨.inl ⟨rfl, hbf, ?_⟩, l1, l2, Int.emod_eq_zero_of_dvd La, Int.emod_eq_zero_of_dvd Lb, N0, hNl, fun _ => ?_, fun h => (by rw [hbf] at h; cases h), hmin, hn, fun k k1 k2 => ?_, hsize⟩
    · intro hz
      rw [hn 0] at hz
      have := sm_zero_all hcut _ hz N.toNat (by omega)
      rcases iT_both pa fa la pb fb lb ((0 : Int) + (N.toNat : Nat)) with h | h
      · omega
      · apply h.2; rw [show (0 : Int) + (N.toNat : Nat) = N by omega]; exact hN
    · have h3 := both_congr (n := N + 3 * lcmF pa pb) (r := N) La Lb ⟨3, by omega⟩ hN
      exact ⟨hN.1, hN.2, h3.1, h3.2⟩
    · have hr0 := Int.emod_nonneg k (show lcmF pa pb ≠ 0 by omega)
      by_cases d : N ≤ k % lcmF pa pb
      · exact d
      · exact absurd (both_mod ⟨k1, k2⟩) (hl _ hr0 (by omega))
  · have hnone : ∀ n, ¬ both pa fa la pb fb lb n := fun n => none_of_below ha hb (fun m m0 _ => hno m m0) n
    have hbt : b = true := by
      cases hk : kaB la ((fb - fa) % (Int.gcd pa pb : Int)) lb (Int.gcd pa pb) with
      | false =>
        obtain ⟨n, _, n1, n2⟩ := meets ha hb hk
        exact absurd ⟨n1, n2⟩ (hnone n)
      | true =>
        have : apB pa fa la pb fb lb (Int.gcd pa pb) = true := by
          unfold apB
          rw [hk, Bool.and_true]
          simp only [dvB, decide_eq_true_eq]
          exact ⟨g1, Int.emod_eq_zero_of_dvd (Int.gcd_dvd_left ..), Int.emod_eq_zero_of_dvd (Int.gcd_dvd_right ..)⟩
        exact (hmin _ this).1
    refine ⟨.inr ⟨rfl, hbt, ?_⟩, l1, l2, Int.emod_eq_zero_of_dvd La, Int.emod_eq_zero_of_dvd Lb, Int.le_refl _, by omega, fun h => (by cases h), fun _ => ?_, hmin, hn, fun k k1 k2 => absurd ⟨k1, k2⟩ (hnone k), hsize⟩
    · rw [hn 0]
      refine sm_zero _ fun i _ => ?_
      rcases iT_both pa fa la pb fb lb ((0 : Int) + i) with h | h
      · exact absurd h.2 (hnone _)
      · exact h.1
    · rcases hA with ⟨_, _, _, m2, _⟩ | ⟨h, _⟩
      · exact m2
      · rw [hbt] at h; cases h
end Go.Proofs.YtlhgpeelenelbaaDoor

/- The law TurnResidues, its calls met by their contracts; sanity is a hypothesis here. -/
namespace Go.Proofs.YtlhgpeelenelbaaDoor
open Go.RowKit

set_option maxHeartbeats 1000000 in
theorem inTurn_any (p f l n : Int) (w : World) (h : TOk p f l) (h3 : -9000000000000 ≤ n) (h4 : n ≤ 9000000000000) :
    Calls Tryd.prog 57 #[tv p f l, .int .i64 n] w fun e w' => e = .returned (.bool (itB p f l n)) ∧ Below w.heap.size w w' := by
  obtain ⟨a1, a2, a3, a4, a5, a6⟩ := h
  have hz : (p == 0) = false := beq_eq_false_iff_ne.2 (by omega)
  have HF : Hid (itB p f l n = decide ((n - f) % p < l)) := Lib.hid rfl
  obtain ⟨x, hx⟩ : ∃ x, n - f = x := ⟨_, rfl⟩
  have W1 : IntKind.i64.wrap (n - f) = x := by rw [← hx]; exact IntWalk.i64_in _ (by omega)
  rw [hx] at HF
  have hx1 : -9000000100000 ≤ x ∧ x ≤ 9000000000000 := by omega
  clear hx
  by_cases hn : 0 ≤ x
  · have hp : 0 ≤ x % p := Int.emod_nonneg _ (by omega)
    go_enter Tryd.func57, Tryd.ntmps57
    go_wp2_with fail
    go_ret
    exact ⟨by rw [HF.out]; rfl, (Below.refl _ _).alloc (Nat.le_refl _) _⟩
  · have hlo : -p < x.tmod p := by have := Int.lt_tmod_of_pos x (show (0:Int) < p by omega); omega
    have hhi : x.tmod p ≤ 0 := by
      have := Int.tmod_nonneg (a := -x) p (by omega); rw [Int.neg_tmod] at this; omega
    have he : x % p = if x.tmod p < 0 then x.tmod p + p else x.tmod p := by
      have h1 := Int.tmod_eq_emod (a := x) (b := p)
      rw [h1]
      have h2 := Int.emod_nonneg x (show p ≠ 0 by omega)
      have h3 := Int.emod_lt_of_pos x (show 0 < p by omega)
      split <;> split <;> simp_all <;> omega
    have H := Lib.hid he
    clear he
    by_cases hm : x.tmod p < 0
    all_goals
      go_enter Tryd.func57, Tryd.ntmps57
      go_wp2_with fail
      go_ret
    · exact ⟨by rw [HF.out, H.out, if_pos hm]; rfl, (Below.refl _ _).alloc (Nat.le_refl _) _⟩
    · exact ⟨by rw [HF.out, H.out, if_neg (by omega)]; rfl, (Below.refl _ _).alloc (Nat.le_refl _) _⟩

set_option maxHeartbeats 4000000 in
set_option maxRecDepth 100000 in
theorem residues_bad (hsan : ∀ W, Calls Tryd.prog 16 #[] W fun e w' => e = .returned (.bool true) ∧ Below W.heap.size W w')
    (pa fa la pb fb lb m fr : Int) (w : World) (h : ¬ (TOk pa fa la ∧ TOk pb fb lb)) :
    Calls Tryd.prog 11 #[tv pa fa la, tv pb fb lb, .int .i64 m, .int .u16 fr] w fun e w' => e = .returned (.bool true) ∧ Below w.heap.size w w' := by
  have HA1 := Lib.hid fun W => first_bad pa fa la pb fb lb W (not_both h)
  have HA2 := Lib.hid fun W => apart_bad pa fa la pb fb lb W (not_both h)
  have HA3 := Lib.hid fun W => often_bad pa fa la pb fb lb W (not_both h)
  have HS := Lib.hid hsan
  clear hsan h
  have S0 := Lib.hid (SS.new (w := w) (pa := pa) (fa := fa) (la := la) (pb := pb) (fb := fb) (lb := lb) 27 27)
  go_enter Tryd.func11, Tryd.ntmps11
  go_wp2_with fail
  refine (HA1.out _).mono ?_
  rintro e w1 ⟨rfl, h1⟩
  have S1 := SS.below S0.out h1
  clear h1 S0
  have S1' := Lib.hid S1
  obtain ⟨t0, t1, t2, t3, t4, t5, t6, _⟩ := S1
  go_wp2_with fail
  refine (HA2.out _).mono ?_
  rintro e w2 ⟨rfl, h2⟩
  have S2 := SS.below S1'.out h2
  clear h2 S1' t0 t1 t2 t3 t4 t5 t6
  have S2' := Lib.hid S2
  obtain ⟨t0, t1, t2, t3, t4, t5, t6, _⟩ := S2
  go_wp2_with fail
  refine (HA3.out _).mono ?_
  rintro e w3 ⟨rfl, h3⟩
  have S3 := SS.below S2'.out h3
  clear h3 S2' t0 t1 t2 t3 t4 t5 t6
  have S3' := Lib.hid S3
  obtain ⟨t0, t1, t2, t3, t4, t5, t6, _⟩ := S3
  go_wp2_with fail
  refine (HS.out _).mono ?_
  rintro e w5 ⟨rfl, h5⟩
  have S5 := SS.below S3'.out h5
  clear h5 t0 t1 t2 t3 t4 t5 t6
  go_wp2_with fail
  go_ret
  exact ⟨rfl, S5.2.2.2.2.2.2.2⟩

set_option maxHeartbeats 4000000 in
set_option maxRecDepth 100000 in
theorem residues_good (hsan : ∀ W, Calls Tryd.prog 16 #[] W fun e w' => e = .returned (.bool true) ∧ Below W.heap.size W w')
    (pa fa la pb fb lb m fr : Int) (w : World) (ha : TOk pa fa la) (hb : TOk pb fb lb) (f0 : 0 ≤ fr) (f1 : fr ≤ 65535) :
    Calls Tryd.prog 11 #[tv pa fa la, tv pb fb lb, .int .i64 m, .int .u16 fr] w fun e w' => e = .returned (.bool true) ∧ Below w.heap.size w w' := by
  obtain ⟨N, c, hF⟩ := FirstIs.exists_ ha hb
  obtain ⟨am, ab, hA⟩ := ApartIs.exists_ pa fa la pb fb lb (Int.gcd pa pb)
  have HA1 : Hid (∀ W, Calls Tryd.prog 27 #[tv pa fa la, tv pb fb lb] W fun e w' => e = .returned (.tuple #[.int .i64 N, .int .i64 c]) ∧ Below W.heap.size W w') :=
    Lib.hid fun W => (first_ok pa fa la pb fb lb W ha hb).mono fun e w' ⟨m', c', hm', he, hb⟩ => by obtain ⟨rfl, rfl⟩ := hF.unique hm'; exact ⟨he, hb⟩
  have HA2 : Hid (∀ W, Calls Tryd.prog 31 #[tv pa fa la, tv pb fb lb] W fun e w' => e = .returned (.tuple #[.int .i64 am, .bool ab, .int .i64 0]) ∧ Below W.heap.size W w') :=
    Lib.hid fun W => (apart_ok pa fa la pb fb lb W ha hb).mono fun e w' ⟨m', c', hm', he, hb⟩ => by obtain ⟨rfl, rfl⟩ := hA.unique hm'; exact ⟨he, hb⟩
  have HA3 : ∀ W, Calls Tryd.prog 29 #[tv pa fa la, tv pb fb lb] W fun e w' => e = .returned (.tuple #[.int .i64 (oftenF fa la fb lb (Int.gcd pa pb) (Int.gcd pa pb)), .int .i64 (lcmF pa pb), .int .i64 0]) ∧ Below W.heap.size W w' := fun W => often_ok pa fa la pb fb lb W ha hb
  have R := res_is ha hb hF hA
  have HC := Lib.hid fun k W => checkApart_ok pa fa la pb fb lb k W ha hb
  have HIa := Lib.hid fun n W h3 h4 => inTurn_any pa fa la n W ha h3 h4
  have HIb := Lib.hid fun n W h3 h4 => inTurn_any pb fb lb n W hb h3 h4
  generalize oftenF fa la fb lb (Int.gcd pa pb) (Int.gcd pa pb) = n at *
  generalize lcmF pa pb = l at *
  have HA3 := Lib.hid HA3
  have HS := Lib.hid hsan
  have HR := Lib.hid R
  clear hsan hF hA R
  have S0 := Lib.hid (SS.new (w := w) (pa := pa) (fa := fa) (la := la) (pb := pb) (fb := fb) (lb := lb) 27 27)
  go_enter Tryd.func11, Tryd.ntmps11
  go_wp2_with fail
  refine (HA1.out _).mono ?_
  rintro e w1 ⟨rfl, h1⟩
  have S1 := SS.below S0.out h1
  clear h1 S0
  have S1' := Lib.hid S1
  obtain ⟨t0, t1, t2, t3, t4, t5, t6, _⟩ := S1
  go_wp2_with fail
  refine (HA2.out _).mono ?_
  rintro e w2 ⟨rfl, h2⟩
  have S2 := SS.below S1'.out h2
  clear h2 S1' t0 t1 t2 t3 t4 t5 t6
  have S2' := Lib.hid S2
  obtain ⟨t0, t1, t2, t3, t4, t5, t6, _⟩ := S2
  go_wp2_with fail
  refine (HA3.out _).mono ?_
  rintro e w3 ⟨rfl, h3⟩
  have S3 := SS.below S2'.out h3
  clear h3 S2' t0 t1 t2 t3 t4 t5 t6
  have S3' := Lib.hid S3
  obtain ⟨t0, t1, t2, t3, t4, t5, t6, _⟩ := S3
  have l1 := HR.out.l1
  have l2 := HR.out.l2
  have zl := HR.out.za
  have zr := HR.out.zb
  have ha1 := ha.1
  have hb1 := hb.1
  have hza : (pa == 0) = false := beq_eq_false_iff_ne.2 (by omega)
  have hzb : (pb == 0) = false := beq_eq_false_iff_ne.2 (by omega)
  have N0 := HR.out.N0
  have N1 := HR.out.N1
  have hcut : ∀ k, itB pa fa la k = decide ((k - fa) % pa < la) := fun _ => rfl
  have hcutb : ∀ k, itB pb fb lb k = decide ((k - fb) % pb < lb) := fun _ => rfl
  have itYes : ∀ {p f l k : Int}, inT p f l k → itB p f l k = true := fun h => decide_eq_true h
  rcases HR.out.hc with ⟨rfl, rfl, hn0⟩ | ⟨rfl, rfl, rfl⟩
  · have hnz : (n == 0) = false := beq_eq_false_iff_ne.2 hn0
    obtain ⟨i1, i2, i3, i4⟩ := HR.out.hN rfl
    have I1 := Lib.hid fun W => HIa.out N W (by omega) (by omega)
    have I2 := Lib.hid fun W => HIb.out N W (by omega) (by omega)
    have I3 := Lib.hid fun W => HIa.out (N + 3 * l) W (by omega) (by omega)
    have I4 := Lib.hid fun W => HIb.out (N + 3 * l) W (by omega) (by omega)
    rw [itYes i1] at I1
    rw [itYes i2] at I2
    rw [itYes i3] at I3
    rw [itYes i4] at I4
    have hx : apB pa fa la pb fb lb m = false := by
      cases hq : apB pa fa la pb fb lb m with
      | false => rfl
      | true => have := (HR.out.hs m hq).1; cases this
    have C1 := Lib.hid fun W => HC.out m W
    rw [hx] at C1
    have C1 : Hid (∀ W, Calls Tryd.prog 35 #[tv pa fa la, tv pb fb lb, .int .i64 m] W fun e w' => e = .returned (.int .i64 8) ∧ Below W.heap.size W w') := C1
    clear i1 i2 i3 i4 hcut hcutb itYes hx hn0
    go_wp2_with fail
    refine (I1.out _).mono ?_
    rintro e w4 ⟨rfl, hw4⟩
    have S := Lib.hid (SS.below S3'.out hw4)
    clear hw4 S3' t0 t1 t2 t3 t4 t5 t6
    obtain ⟨t0, t1, t2, t3, t4, t5, t6, _⟩ := S.out
    go_wp2_with fail
    refine (I2.out _).mono ?_
    rintro e w5 ⟨rfl, hw5⟩
    have S := Lib.hid (SS.below S.out hw5)
    clear hw5 t0 t1 t2 t3 t4 t5 t6
    obtain ⟨t0, t1, t2, t3, t4, t5, t6, _⟩ := S.out
    go_wp2_with fail
    refine (I3.out _).mono ?_
    rintro e w6 ⟨rfl, hw6⟩
    have S := Lib.hid (SS.below S.out hw6)
    clear hw6 t0 t1 t2 t3 t4 t5 t6
    obtain ⟨t0, t1, t2, t3, t4, t5, t6, _⟩ := S.out
    go_wp2_with fail
    refine (I4.out _).mono ?_
    rintro e w7 ⟨rfl, hw7⟩
    have S := Lib.hid (SS.below S.out hw7)
    clear hw7 t0 t1 t2 t3 t4 t5 t6
    obtain ⟨t0, t1, t2, t3, t4, t5, t6, _⟩ := S.out
    go_wp2_with fail
    refine (C1.out _).mono ?_
    rintro e w8 ⟨rfl, hw8⟩
    have S := Lib.hid (SS.below S.out hw8)
    clear hw8 t0 t1 t2 t3 t4 t5 t6
    obtain ⟨t0, t1, t2, t3, t4, t5, t6, _⟩ := S.out
    clear C1 I1 I2 I3 I4
    by_cases hl3 : 3000 < l
    · go_wp2_with fail
      refine (HS.out _).mono ?_
      rintro e wz ⟨rfl, hwz⟩
      have S := Lib.hid (SS.below S.out hwz)
      clear hwz t0 t1 t2 t3 t4 t5 t6
      go_wp2_with fail
      go_ret
      exact ⟨rfl, S.out.2.2.2.2.2.2.2⟩
    · go_wp2_with fail
      obtain ⟨ln, rfl⟩ : ∃ ln : Nat, l = ln := ⟨l.toNat, by omega⟩
      have hfin := Lib.hid (HR.out.hn fr)
      have hlz : ((ln : Int) == 0) = false := beq_eq_false_iff_ne.2 (by omega)
      have hkk := Lib.hid HR.out.hk
      have hbd : Hid (∀ (i : Nat), 0 ≤ sm (fun t => iT pa fa la (fr + t) * iT pb fb lb (fr + t)) i ∧ sm (fun t => iT pa fa la (fr + t) * iT pb fb lb (fr + t)) i ≤ i) := Lib.hid (sm_bd fun i => by rcases iT_both pa fa la pb fb lb (fr + i) with h | h <;> omega)
      go_loopw [18, 19] (fun u v wr => ∃ t : Nat, v = .int .i64 (fr + t) ∧ t ≤ ln ∧ (∃ o, u = .int .i64 o ∧ o = sm (fun t => iT pa fa la (fr + t) * iT pb fb lb (fr + t)) t) ∧ SS w pa fa la pb fb lb wr) (fun _ v _ => (fr + ln - intOf v).toNat)
      case atStart => exact ⟨0, by simp, by omega, ⟨0, rfl, rfl⟩, S.out⟩
      case round =>
        obtain ⟨t, rfl, ht, ⟨o, rfl, ho⟩, S9⟩ := hrel
        clear t0 t1 t2 t3 t4 t5 t6
        have S9' := Lib.hid S9
        obtain ⟨t0, t1, t2, t3, t4, t5, t6, _⟩ := S9
        have hb0 := hbd.out t
        rw [← ho] at hb0
        obtain ⟨o1, o2⟩ := hb0
        have Ho := Lib.hid ho
        clear ho
        have HO : Hid (sm (fun t => iT pa fa la (fr + t) * iT pb fb lb (fr + t)) (t + 1) = o + iT pa fa la (fr + t) * iT pb fb lb (fr + t)) := Lib.hid (by rw [Ho.out]; rfl)
        by_cases hlt : t < ln
        · obtain ⟨k, hk⟩ : ∃ k, fr + (t : Int) = k := ⟨_, rfl⟩
          have Ia := Lib.hid fun W => HIa.out k W (by omega) (by omega)
          have Ib := Lib.hid fun W => HIb.out k W (by omega) (by omega)
          have hkl : k < fr + (ln : Int) := by omega
          have hk0 : 0 ≤ k := by omega
          have hk1 : k ≤ 100000 := by omega
          have hkt : fr + ((t + 1 : Nat) : Int) = k + 1 := by omega
          have Hkt := Lib.hid hkt
          have Hk := Lib.hid hk
          rw [hk] at HO ⊢
          clear hk hkt
          have hv1 : itB pa fa la k = true → inT pa fa la k := fun h => of_decide_eq_true (p := (k - fa) % pa < la) h
          have hv2 : itB pb fb lb k = true → inT pb fb lb k := fun h => of_decide_eq_true (p := (k - fb) % pb < lb) h
          have hv3 : itB pa fa la k = false → iT pa fa la k = 0 := fun h => by unfold iT; rw [if_neg (of_decide_eq_false h)]
          have hv4 : itB pb fb lb k = false → iT pb fb lb k = 0 := fun h => by unfold iT; rw [if_neg (of_decide_eq_false h)]
          cases ea : itB pa fa la k with
          | false =>
            have hz0 := Lib.hid (hv3 ea)
            rw [ea] at Ia
            clear ea hv1 hv2 hv3 hv4 hlt
            go_wp2_with fail
            refine (Ia.out _).mono ?_
            rintro e wa ⟨rfl, ha'⟩
            have Sa := Lib.hid (SS.below S9'.out ha')
            clear ha' t0 t1 t2 t3 t4 t5 t6
            obtain ⟨t0, t1, t2, t3, t4, t5, t6, _⟩ := Sa.out
            go_wp2_with fail
            go_roundw
            case rel => exact ⟨t + 1, congrArg (Value.int .i64) Hkt.out.symm, (by have := Hk.out; omega), ⟨_, rfl, by rw [HO.out, hz0.out]; omega⟩, Sa.out⟩
            case measure => have := Hk.out; show (fr + ln - (k + 1)).toNat < (fr + ln - k).toNat; omega
          | true =>
            have iv1 := Lib.hid (hv1 ea)
            rw [ea] at Ia
            cases eb : itB pb fb lb k with
            | false =>
              have hz0 := Lib.hid (hv4 eb)
              rw [eb] at Ib
              clear ea eb hv1 hv2 hv3 hv4 hlt
              go_wp2_with fail
              refine (Ia.out _).mono ?_
              rintro e wa ⟨rfl, ha'⟩
              have Sa := Lib.hid (SS.below S9'.out ha')
              clear ha' t0 t1 t2 t3 t4 t5 t6
              obtain ⟨t0, t1, t2, t3, t4, t5, t6, _⟩ := Sa.out
              go_wp2_with fail
              refine (Ib.out _).mono ?_
              rintro e wb ⟨rfl, hb'⟩
              have Sb := Lib.hid (SS.below Sa.out hb')
              clear hb' t0 t1 t2 t3 t4 t5 t6
              obtain ⟨t0, t1, t2, t3, t4, t5, t6, _⟩ := Sb.out
              go_wp2_with fail
              go_roundw
              case rel => exact ⟨t + 1, congrArg (Value.int .i64) Hkt.out.symm, (by have := Hk.out; omega), ⟨_, rfl, by rw [HO.out, hz0.out]; omega⟩, Sb.out⟩
              case measure => have := Hk.out; show (fr + ln - (k + 1)).toNat < (fr + ln - k).toNat; omega
            | true =>
              have iv2 := Lib.hid (hv2 eb)
              rw [eb] at Ib
              have hNk : N ≤ k % (ln : Int) := hkk.out k iv1.out iv2.out
              have hko : Hid (iT pa fa la k * iT pb fb lb k = 1) := Lib.hid (by rw [iT_one.2 iv1.out, iT_one.2 iv2.out]; rfl)
              clear ea eb hv1 hv2 hv3 hv4 hlt
              go_wp2_with fail
              refine (Ia.out _).mono ?_
              rintro e wa ⟨rfl, ha'⟩
              have Sa := Lib.hid (SS.below S9'.out ha')
              clear ha' t0 t1 t2 t3 t4 t5 t6
              obtain ⟨t0, t1, t2, t3, t4, t5, t6, _⟩ := Sa.out
              go_wp2_with fail
              refine (Ib.out _).mono ?_
              rintro e wb ⟨rfl, hb'⟩
              have Sb := Lib.hid (SS.below Sa.out hb')
              clear hb' t0 t1 t2 t3 t4 t5 t6
              obtain ⟨t0, t1, t2, t3, t4, t5, t6, _⟩ := Sb.out
              go_wp2_with fail
              go_roundw
              case rel => exact ⟨t + 1, congrArg (Value.int .i64) Hkt.out.symm, (by have := Hk.out; omega), ⟨_, rfl, by rw [HO.out, hko.out]⟩, Sb.out⟩
              case measure => have := Hk.out; show (fr + ln - (k + 1)).toNat < (fr + ln - k).toNat; omega
        · obtain rfl : t = ln := by omega
          have hlast : o = n := by rw [Ho.out, hfin.out, Int.toNat_natCast]
          subst hlast
          go_wp2_with fail
          refine (HS.out _).mono ?_
          rintro e wz ⟨rfl, hwz⟩
          have Sz := Lib.hid (SS.below S9'.out hwz)
          clear hwz t0 t1 t2 t3 t4 t5 t6
          go_wp2_with fail
          go_ret
          exact ⟨rfl, Sz.out.2.2.2.2.2.2.2⟩
  · clear hcut hcutb itYes
    have C2 := Lib.hid fun W => HC.out am W
    rw [HR.out.hm rfl] at C2
    have C2 : Hid (∀ W, Calls Tryd.prog 35 #[tv pa fa la, tv pb fb lb, .int .i64 am] W fun e w' => e = .returned (.int .i64 0) ∧ Below W.heap.size W w') := C2
    have hmm := HR.out.hs m
    have C1 := Lib.hid fun W => HC.out m W
    cases hq : apB pa fa la pb fb lb m with
    | false =>
      rw [hq] at C1
      have C1 : Hid (∀ W, Calls Tryd.prog 35 #[tv pa fa la, tv pb fb lb, .int .i64 m] W fun e w' => e = .returned (.int .i64 8) ∧ Below W.heap.size W w') := C1
      clear hmm hq
      go_wp2_with fail
      refine (C1.out _).mono ?_
      rintro e w8 ⟨rfl, hw8⟩
      have S := Lib.hid (SS.below S3'.out hw8)
      clear hw8 S3' t0 t1 t2 t3 t4 t5 t6
      obtain ⟨t0, t1, t2, t3, t4, t5, t6, _⟩ := S.out
      go_wp2_with fail
      refine (C2.out _).mono ?_
      rintro e w9 ⟨rfl, hw9⟩
      have S := Lib.hid (SS.below S.out hw9)
      clear hw9 t0 t1 t2 t3 t4 t5 t6
      obtain ⟨t0, t1, t2, t3, t4, t5, t6, _⟩ := S.out
      clear C1 C2
      by_cases hl3 : 3000 < l
      · go_wp2_with fail
        refine (HS.out _).mono ?_
        rintro e wz ⟨rfl, hwz⟩
        have S := Lib.hid (SS.below S.out hwz)
        clear hwz t0 t1 t2 t3 t4 t5 t6
        go_wp2_with fail
        go_ret
        exact ⟨rfl, S.out.2.2.2.2.2.2.2⟩
      · go_wp2_with fail
        obtain ⟨ln, rfl⟩ : ∃ ln : Nat, l = ln := ⟨l.toNat, by omega⟩
        have hfin := Lib.hid (HR.out.hn fr)
        have hlz : ((ln : Int) == 0) = false := beq_eq_false_iff_ne.2 (by omega)
        have hkk := Lib.hid HR.out.hk
        have hbd : Hid (∀ (i : Nat), 0 ≤ sm (fun t => iT pa fa la (fr + t) * iT pb fb lb (fr + t)) i ∧ sm (fun t => iT pa fa la (fr + t) * iT pb fb lb (fr + t)) i ≤ i) := Lib.hid (sm_bd fun i => by rcases iT_both pa fa la pb fb lb (fr + i) with h | h <;> omega)
        go_loopw [18, 19] (fun u v wr => ∃ t : Nat, v = .int .i64 (fr + t) ∧ t ≤ ln ∧ (∃ o, u = .int .i64 o ∧ o = sm (fun t => iT pa fa la (fr + t) * iT pb fb lb (fr + t)) t) ∧ SS w pa fa la pb fb lb wr) (fun _ v _ => (fr + ln - intOf v).toNat)
        case atStart => exact ⟨0, by simp, by omega, ⟨0, rfl, rfl⟩, S.out⟩
        case round =>
          obtain ⟨t, rfl, ht, ⟨o, rfl, ho⟩, S9⟩ := hrel
          clear t0 t1 t2 t3 t4 t5 t6
          have S9' := Lib.hid S9
          obtain ⟨t0, t1, t2, t3, t4, t5, t6, _⟩ := S9
          have hb0 := hbd.out t
          rw [← ho] at hb0
          obtain ⟨o1, o2⟩ := hb0
          have Ho := Lib.hid ho
          clear ho
          have HO : Hid (sm (fun t => iT pa fa la (fr + t) * iT pb fb lb (fr + t)) (t + 1) = o + iT pa fa la (fr + t) * iT pb fb lb (fr + t)) := Lib.hid (by rw [Ho.out]; rfl)
          by_cases hlt : t < ln
          · obtain ⟨k, hk⟩ : ∃ k, fr + (t : Int) = k := ⟨_, rfl⟩
            have Ia := Lib.hid fun W => HIa.out k W (by omega) (by omega)
            have Ib := Lib.hid fun W => HIb.out k W (by omega) (by omega)
            have hkl : k < fr + (ln : Int) := by omega
            have hk0 : 0 ≤ k := by omega
            have hk1 : k ≤ 100000 := by omega
            have hkt : fr + ((t + 1 : Nat) : Int) = k + 1 := by omega
            have Hkt := Lib.hid hkt
            have Hk := Lib.hid hk
            rw [hk] at HO ⊢
            clear hk hkt
            have hv1 : itB pa fa la k = true → inT pa fa la k := fun h => of_decide_eq_true (p := (k - fa) % pa < la) h
            have hv2 : itB pb fb lb k = true → inT pb fb lb k := fun h => of_decide_eq_true (p := (k - fb) % pb < lb) h
            have hv3 : itB pa fa la k = false → iT pa fa la k = 0 := fun h => by unfold iT; rw [if_neg (of_decide_eq_false h)]
            have hv4 : itB pb fb lb k = false → iT pb fb lb k = 0 := fun h => by unfold iT; rw [if_neg (of_decide_eq_false h)]
            cases ea : itB pa fa la k with
            | false =>
              have hz0 := Lib.hid (hv3 ea)
              rw [ea] at Ia
              clear ea hv1 hv2 hv3 hv4 hlt
              go_wp2_with fail
              refine (Ia.out _).mono ?_
              rintro e wa ⟨rfl, ha'⟩
              have Sa := Lib.hid (SS.below S9'.out ha')
              clear ha' t0 t1 t2 t3 t4 t5 t6
              obtain ⟨t0, t1, t2, t3, t4, t5, t6, _⟩ := Sa.out
              go_wp2_with fail
              go_roundw
              case rel => exact ⟨t + 1, congrArg (Value.int .i64) Hkt.out.symm, (by have := Hk.out; omega), ⟨_, rfl, by rw [HO.out, hz0.out]; omega⟩, Sa.out⟩
              case measure => have := Hk.out; show (fr + ln - (k + 1)).toNat < (fr + ln - k).toNat; omega
            | true =>
              have iv1 := Lib.hid (hv1 ea)
              rw [ea] at Ia
              cases eb : itB pb fb lb k with
              | false =>
                have hz0 := Lib.hid (hv4 eb)
                rw [eb] at Ib
                clear ea eb hv1 hv2 hv3 hv4 hlt
                go_wp2_with fail
                refine (Ia.out _).mono ?_
                rintro e wa ⟨rfl, ha'⟩
                have Sa := Lib.hid (SS.below S9'.out ha')
                clear ha' t0 t1 t2 t3 t4 t5 t6
                obtain ⟨t0, t1, t2, t3, t4, t5, t6, _⟩ := Sa.out
                go_wp2_with fail
                refine (Ib.out _).mono ?_
                rintro e wb ⟨rfl, hb'⟩
                have Sb := Lib.hid (SS.below Sa.out hb')
                clear hb' t0 t1 t2 t3 t4 t5 t6
                obtain ⟨t0, t1, t2, t3, t4, t5, t6, _⟩ := Sb.out
                go_wp2_with fail
                go_roundw
                case rel => exact ⟨t + 1, congrArg (Value.int .i64) Hkt.out.symm, (by have := Hk.out; omega), ⟨_, rfl, by rw [HO.out, hz0.out]; omega⟩, Sb.out⟩
                case measure => have := Hk.out; show (fr + ln - (k + 1)).toNat < (fr + ln - k).toNat; omega
              | true =>
                have iv2 := Lib.hid (hv2 eb)
                rw [eb] at Ib
                have hNk : N ≤ k % (ln : Int) := hkk.out k iv1.out iv2.out
                have hko : Hid (iT pa fa la k * iT pb fb lb k = 1) := Lib.hid (by rw [iT_one.2 iv1.out, iT_one.2 iv2.out]; rfl)
                clear ea eb hv1 hv2 hv3 hv4 hlt
                go_wp2_with fail
                refine (Ia.out _).mono ?_
                rintro e wa ⟨rfl, ha'⟩
                have Sa := Lib.hid (SS.below S9'.out ha')
                clear ha' t0 t1 t2 t3 t4 t5 t6
                obtain ⟨t0, t1, t2, t3, t4, t5, t6, _⟩ := Sa.out
                go_wp2_with fail
                refine (Ib.out _).mono ?_
                rintro e wb ⟨rfl, hb'⟩
                have Sb := Lib.hid (SS.below Sa.out hb')
                clear hb' t0 t1 t2 t3 t4 t5 t6
                obtain ⟨t0, t1, t2, t3, t4, t5, t6, _⟩ := Sb.out
                go_wp2_with fail
                go_roundw
                case rel => exact ⟨t + 1, congrArg (Value.int .i64) Hkt.out.symm, (by have := Hk.out; omega), ⟨_, rfl, by rw [HO.out, hko.out]⟩, Sb.out⟩
                case measure => have := Hk.out; show (fr + ln - (k + 1)).toNat < (fr + ln - k).toNat; omega
          · obtain rfl : t = ln := by omega
            have hlast : o = 0 := by rw [Ho.out, hfin.out, Int.toNat_natCast]
            subst hlast
            go_wp2_with fail
            refine (HS.out _).mono ?_
            rintro e wz ⟨rfl, hwz⟩
            have Sz := Lib.hid (SS.below S9'.out hwz)
            clear hwz t0 t1 t2 t3 t4 t5 t6
            go_wp2_with fail
            go_ret
            exact ⟨rfl, Sz.out.2.2.2.2.2.2.2⟩
    | true =>
      rw [hq] at C1
      have C1 : Hid (∀ W, Calls Tryd.prog 35 #[tv pa fa la, tv pb fb lb, .int .i64 m] W fun e w' => e = .returned (.int .i64 0) ∧ Below W.heap.size W w') := C1
      have hmm := (hmm hq).2
      clear hq
      go_wp2_with fail
      refine (C1.out _).mono ?_
      rintro e w8 ⟨rfl, hw8⟩
      have S := Lib.hid (SS.below S3'.out hw8)
      clear hw8 S3' t0 t1 t2 t3 t4 t5 t6
      obtain ⟨t0, t1, t2, t3, t4, t5, t6, _⟩ := S.out
      go_wp2_with fail
      refine (C2.out _).mono ?_
      rintro e w9 ⟨rfl, hw9⟩
      have S := Lib.hid (SS.below S.out hw9)
      clear hw9 t0 t1 t2 t3 t4 t5 t6
      obtain ⟨t0, t1, t2, t3, t4, t5, t6, _⟩ := S.out
      clear C1 C2
      by_cases hl3 : 3000 < l
      · go_wp2_with fail
        refine (HS.out _).mono ?_
        rintro e wz ⟨rfl, hwz⟩
        have S := Lib.hid (SS.below S.out hwz)
        clear hwz t0 t1 t2 t3 t4 t5 t6
        go_wp2_with fail
        go_ret
        exact ⟨rfl, S.out.2.2.2.2.2.2.2⟩
      · go_wp2_with fail
        obtain ⟨ln, rfl⟩ : ∃ ln : Nat, l = ln := ⟨l.toNat, by omega⟩
        have hfin := Lib.hid (HR.out.hn fr)
        have hlz : ((ln : Int) == 0) = false := beq_eq_false_iff_ne.2 (by omega)
        have hkk := Lib.hid HR.out.hk
        have hbd : Hid (∀ (i : Nat), 0 ≤ sm (fun t => iT pa fa la (fr + t) * iT pb fb lb (fr + t)) i ∧ sm (fun t => iT pa fa la (fr + t) * iT pb fb lb (fr + t)) i ≤ i) := Lib.hid (sm_bd fun i => by rcases iT_both pa fa la pb fb lb (fr + i) with h | h <;> omega)
        go_loopw [18, 19] (fun u v wr => ∃ t : Nat, v = .int .i64 (fr + t) ∧ t ≤ ln ∧ (∃ o, u = .int .i64 o ∧ o = sm (fun t => iT pa fa la (fr + t) * iT pb fb lb (fr + t)) t) ∧ SS w pa fa la pb fb lb wr) (fun _ v _ => (fr + ln - intOf v).toNat)
        case atStart => exact ⟨0, by simp, by omega, ⟨0, rfl, rfl⟩, S.out⟩
        case round =>
          obtain ⟨t, rfl, ht, ⟨o, rfl, ho⟩, S9⟩ := hrel
          clear t0 t1 t2 t3 t4 t5 t6
          have S9' := Lib.hid S9
          obtain ⟨t0, t1, t2, t3, t4, t5, t6, _⟩ := S9
          have hb0 := hbd.out t
          rw [← ho] at hb0
          obtain ⟨o1, o2⟩ := hb0
          have Ho := Lib.hid ho
          clear ho
          have HO : Hid (sm (fun t => iT pa fa la (fr + t) * iT pb fb lb (fr + t)) (t + 1) = o + iT pa fa la (fr + t) * iT pb fb lb (fr + t)) := Lib.hid (by rw [Ho.out]; rfl)
          by_cases hlt : t < ln
          · obtain ⟨k, hk⟩ : ∃ k, fr + (t : Int) = k := ⟨_, rfl⟩
            have Ia := Lib.hid fun W => HIa.out k W (by omega) (by omega)
            have Ib := Lib.hid fun W => HIb.out k W (by omega) (by omega)
            have hkl : k < fr + (ln : Int) := by omega
            have hk0 : 0 ≤ k := by omega
            have hk1 : k ≤ 100000 := by omega
            have hkt : fr + ((t + 1 : Nat) : Int) = k + 1 := by omega
            have Hkt := Lib.hid hkt
            have Hk := Lib.hid hk
            rw [hk] at HO ⊢
            clear hk hkt
            have hv1 : itB pa fa la k = true → inT pa fa la k := fun h => of_decide_eq_true (p := (k - fa) % pa < la) h
            have hv2 : itB pb fb lb k = true → inT pb fb lb k := fun h => of_decide_eq_true (p := (k - fb) % pb < lb) h
            have hv3 : itB pa fa la k = false → iT pa fa la k = 0 := fun h => by unfold iT; rw [if_neg (of_decide_eq_false h)]
            have hv4 : itB pb fb lb k = false → iT pb fb lb k = 0 := fun h => by unfold iT; rw [if_neg (of_decide_eq_false h)]
            cases ea : itB pa fa la k with
            | false =>
              have hz0 := Lib.hid (hv3 ea)
              rw [ea] at Ia
              clear ea hv1 hv2 hv3 hv4 hlt
              go_wp2_with fail
              refine (Ia.out _).mono ?_
              rintro e wa ⟨rfl, ha'⟩
              have Sa := Lib.hid (SS.below S9'.out ha')
              clear ha' t0 t1 t2 t3 t4 t5 t6
              obtain ⟨t0, t1, t2, t3, t4, t5, t6, _⟩ := Sa.out
              go_wp2_with fail
              go_roundw
              case rel => exact ⟨t + 1, congrArg (Value.int .i64) Hkt.out.symm, (by have := Hk.out; omega), ⟨_, rfl, by rw [HO.out, hz0.out]; omega⟩, Sa.out⟩
              case measure => have := Hk.out; show (fr + ln - (k + 1)).toNat < (fr + ln - k).toNat; omega
            | true =>
              have iv1 := Lib.hid (hv1 ea)
              rw [ea] at Ia
              cases eb : itB pb fb lb k with
              | false =>
                have hz0 := Lib.hid (hv4 eb)
                rw [eb] at Ib
                clear ea eb hv1 hv2 hv3 hv4 hlt
                go_wp2_with fail
                refine (Ia.out _).mono ?_
                rintro e wa ⟨rfl, ha'⟩
                have Sa := Lib.hid (SS.below S9'.out ha')
                clear ha' t0 t1 t2 t3 t4 t5 t6
                obtain ⟨t0, t1, t2, t3, t4, t5, t6, _⟩ := Sa.out
                go_wp2_with fail
                refine (Ib.out _).mono ?_
                rintro e wb ⟨rfl, hb'⟩
                have Sb := Lib.hid (SS.below Sa.out hb')
                clear hb' t0 t1 t2 t3 t4 t5 t6
                obtain ⟨t0, t1, t2, t3, t4, t5, t6, _⟩ := Sb.out
                go_wp2_with fail
                go_roundw
                case rel => exact ⟨t + 1, congrArg (Value.int .i64) Hkt.out.symm, (by have := Hk.out; omega), ⟨_, rfl, by rw [HO.out, hz0.out]; omega⟩, Sb.out⟩
                case measure => have := Hk.out; show (fr + ln - (k + 1)).toNat < (fr + ln - k).toNat; omega
              | true =>
                have iv2 := Lib.hid (hv2 eb)
                rw [eb] at Ib
                have hNk : N ≤ k % (ln : Int) := hkk.out k iv1.out iv2.out
                have hko : Hid (iT pa fa la k * iT pb fb lb k = 1) := Lib.hid (by rw [iT_one.2 iv1.out, iT_one.2 iv2.out]; rfl)
                clear ea eb hv1 hv2 hv3 hv4 hlt
                go_wp2_with fail
                refine (Ia.out _).mono ?_
                rintro e wa ⟨rfl, ha'⟩
                have Sa := Lib.hid (SS.below S9'.out ha')
                clear ha' t0 t1 t2 t3 t4 t5 t6
                obtain ⟨t0, t1, t2, t3, t4, t5, t6, _⟩ := Sa.out
                go_wp2_with fail
                refine (Ib.out _).mono ?_
                rintro e wb ⟨rfl, hb'⟩
                have Sb := Lib.hid (SS.below Sa.out hb')
                clear hb' t0 t1 t2 t3 t4 t5 t6
                obtain ⟨t0, t1, t2, t3, t4, t5, t6, _⟩ := Sb.out
                go_wp2_with fail
                go_roundw
                case rel => exact ⟨t + 1, congrArg (Value.int .i64) Hkt.out.symm, (by have := Hk.out; omega), ⟨_, rfl, by rw [HO.out, hko.out]⟩, Sb.out⟩
                case measure => have := Hk.out; show (fr + ln - (k + 1)).toNat < (fr + ln - k).toNat; omega
          · obtain rfl : t = ln := by omega
            have hlast : o = 0 := by rw [Ho.out, hfin.out, Int.toNat_natCast]
            subst hlast
            go_wp2_with fail
            refine (HS.out _).mono ?_
            rintro e wz ⟨rfl, hwz⟩
            have Sz := Lib.hid (SS.below S9'.out hwz)
            clear hwz t0 t1 t2 t3 t4 t5 t6
            go_wp2_with fail
            go_ret
            exact ⟨rfl, Sz.out.2.2.2.2.2.2.2⟩

theorem turnResidues_calls (hsan : ∀ W, Calls Tryd.prog 16 #[] W fun e w' => e = .returned (.bool true) ∧ Below W.heap.size W w')
    (pa fa la pb fb lb m fr : Int) (w : World) (f0 : 0 ≤ fr) (f1 : fr ≤ 65535) :
    Calls Tryd.prog 11 #[tv pa fa la, tv pb fb lb, .int .i64 m, .int .u16 fr] w fun e w' => e = .returned (.bool true) ∧ Below w.heap.size w w' := by
  by_cases h : TOk pa fa la ∧ TOk pb fb lb
  · exact residues_good hsan pa fa la pb fb lb m fr w h.1 h.2 f0 f1
  · exact residues_bad hsan pa fa la pb fb lb m fr w h
end Go.Proofs.YtlhgpeelenelbaaDoor

/- The law TurnResidues holds for every input, given that sanity answers true: the row, and its card. -/
namespace Go.Proofs.YtlhgpeelenelbaaDoor
open Go.ChangeShapes Go.WideShapes Go.ChangeAt Go.RowKit Go.Joins

namespace turnResidues
def wargs : Array Value := #[tv 0 0 0, tv 0 0 0, .int .i64 0, .int .u16 0]
theorem laid_met (os : Os) : laidMet Tryd.prog Rows.turnResiduesRow.laid ((laidWorld os).forCall (fun _ _ => 0) ⟨#[], wargs, []⟩).memory :=
  laidMet_of_run' 8 (by kernel_rfl) (by kernel_rfl)
theorem reads (os : Os) {H : Type} (enc : TypeId × Value → H) : ∃ places, DataW.whole enc Tryd.prog ((laidWorld os).forCall (fun _ _ => 0) ⟨#[], wargs, []⟩).memory Tryd.f11.params.toList Rows.turnResiduesSpec.vars false wargs.toList 8 = some ([.agg [.lit (.int .i64 0), .lit (.int .i64 0), .lit (.int .i64 0)], .agg [.lit (.int .i64 0), .lit (.int .i64 0), .lit (.int .i64 0)], .lit (.int .i64 0), .lit (.int .u16 0)], [], places) :=
  ⟨[], by kernel_rfl⟩

set_option maxHeartbeats 1000000 in
set_option maxRecDepth 100000 in
/-- What the walk gives, for every argument. -/
theorem contract (hsan : ∀ W, Calls Tryd.prog 16 #[] W fun e w' => e = .returned (.bool true) ∧ Below W.heap.size W w') (H : Type) (enc : TypeId × Value → H) (W : World) (base : Nat) (args : Array Value) (ds gs : List (DataW H)) (before : List MemPlace)
    (hval : ∀ (j : Nat) t v, Tryd.f11.params[j]? = some t → args[j]? = some v → Value.okWide Tryd.prog W .any base t v)
    (hW : DataW.Whole enc Tryd.prog Tryd.f11.params.toList Rows.turnResiduesSpec.vars false W args.toList ds gs before) :
    Calls Tryd.prog 11 args W fun e W' => ∃ v, e = .returned v ∧ Rows.turnResiduesSpec.post enc Tryd.prog Tryd.f11 false true false false W args v W' := by
  have hW' := hW
  obtain ⟨p, q, hA0, hV, rfl, hfz, hnd⟩ := hW
  have hA : DataW.TrodAll enc Tryd.prog W 0 (fun _ => true) true Tryd.f11.params.toList args.toList ds p := hA0
  rw [Tryd.params11] at hA hval
  obtain ⟨v0, vs0, d0, ds0, p0, q0, hargs, rfl, rfl, h0, r0⟩ := trodAll_cons hA
  obtain ⟨v1, vs1, d1, ds1, p1, q1, rfl, rfl, rfl, h1, r1⟩ := trodAll_cons r0
  obtain ⟨v2, vs2, d2, ds2, p2, q2, rfl, rfl, rfl, h2, r2⟩ := trodAll_cons r1
  obtain ⟨v3, vs3, d3, ds3, p3, q3, rfl, rfl, rfl, h3, r3⟩ := trodAll_cons r2
  obtain ⟨rfl, rfl, rfl⟩ := trodAll_nil r3
  obtain rfl : args = #[v0, v1, v2, v3] := by cases args; simp_all
  obtain ⟨rfl, rfl⟩ := trodVars_none hV
  obtain ⟨c0, c1, c2, y0, y1, y2, m, rfl, rfl, rfl, hy0, hy1, hy2⟩ := open_agg3 Tryd.underlying27 (by kernel_rfl) cells27 (hval 0 27 v0 rfl rfl) h0
  obtain ⟨pa, e0, rfl, w0⟩ := DataW.trod_int Tryd.underlying3 hy0
  obtain ⟨fa, e1, rfl, w1⟩ := DataW.trod_int Tryd.underlying3 hy1
  obtain ⟨la, e2, rfl, w2⟩ := DataW.trod_int Tryd.underlying3 hy2
  simp at e0 e1 e2
  subst e0 e1 e2
  obtain ⟨c3, c4, c5, y3, y4, y5, m', rfl, rfl, rfl, hy3, hy4, hy5⟩ := open_agg3 Tryd.underlying27 (by kernel_rfl) cells27 (hval 1 27 v1 rfl rfl) h1
  obtain ⟨pb, e3, rfl, w3⟩ := DataW.trod_int Tryd.underlying3 hy3
  obtain ⟨fb, e4, rfl, w4⟩ := DataW.trod_int Tryd.underlying3 hy4
  obtain ⟨lb, e5, rfl, w5⟩ := DataW.trod_int Tryd.underlying3 hy5
  simp at e3 e4 e5
  subst e3 e4 e5
  obtain ⟨n, rfl, rfl, rfl, wn⟩ := open_int Tryd.underlying3 (hval 2 3 v2 rfl rfl) h2
  obtain ⟨fr, rfl, rfl, rfl, wf⟩ := open_int Tryd.underlying80 (hval 3 80 v3 rfl rfl) h3
  have hfr : 0 ≤ fr ∧ fr ≤ 65535 := by
    have := wf
    have m0 : IntKind.u16.min = 0 := rfl
    have m1 : IntKind.u16.max = 65535 := rfl
    simp [Lit.wf] at this
    omega
  clear hA0
  simp only [List.append_nil] at hW'
  have turnReads : ∀ (a b c : Int) (_ : (Lit.int .i64 a).wf = true) (_ : (Lit.int .i64 b).wf = true) (_ : (Lit.int .i64 c).wf = true) (W' : World) (sp : Nat → Bool), DataW.Trod enc Tryd.prog W' 0 sp true 27 (.agg #[.int .i64 a, .int .i64 b, .int .i64 c]) (.agg [.lit (.int .i64 a), .lit (.int .i64 b), .lit (.int .i64 c)]) [] := fun a b c wa wb wc W' sp =>
    shut_agg3 (y0 := (.lit (.int .i64 a), [])) (y1 := (.lit (.int .i64 b), [])) (y2 := (.lit (.int .i64 c), [])) Tryd.underlying27 (by kernel_rfl) cells27 ⟨1, by simp [DataW.trod, Tryd.underlying3, wa]⟩ ⟨1, by simp [DataW.trod, Tryd.underlying3, wb]⟩ ⟨1, by simp [DataW.trod, Tryd.underlying3, wc]⟩
  refine (turnResidues_calls hsan pa fa la pb fb lb n fr W hfr.1 hfr.2).mono fun e W' ⟨he, hb⟩ => ?_
  subst he
  refine ⟨_, rfl, _, _, _, [], [], [], hW', ?_, ?_, ?_, hb.frame _, fun h => by cases h⟩
  · exact trodAll_cons_mk (shut_bool Tryd.underlying4 _) trodAll_mk0
  · exact trodAll_cons_mk (turnReads _ _ _ w0 w1 w2 _ _) (trodAll_cons_mk (turnReads _ _ _ w3 w4 w5 _ _) (trodAll_cons_mk (shut_int Tryd.underlying3 wn) (trodAll_cons_mk (shut_int Tryd.underlying80 wf) trodAll_mk0)))
  · rfl

set_option maxRecDepth 100000 in
theorem lifted (hsan : ∀ W, Calls Tryd.prog 16 #[] W fun e w' => e = .returned (.bool true) ∧ Below W.heap.size W w') (os : Os) (started : os.Started) (H : Type) (enc : TypeId × Value → H) (F : Stop.Interp) :
    ReturnsInHanded {} Tryd.checked os 11 .any ((OpenSpec.ofChange Rows.turnResiduesSpec).preRow enc Tryd.prog Tryd.f11 Rows.turnResiduesRow.domain false Rows.turnResiduesRow.laid) (((OpenSpec.ofChange Rows.turnResiduesSpec).at F).post enc Tryd.prog Tryd.f11 false true false false) := by
  obtain ⟨places, hx⟩ := reads os enc
  refine returnsInHanded_of_row (C := Tryd.checked) (s := OpenSpec.ofChange Rows.turnResiduesSpec) own started (by kernel_rfl) Tryd.func11
    (witness_row_at (enc := enc) (C := Tryd.checked) false (laidWorld os) wargs rfl (by kernel_rfl) (by kernel_rfl) (by kernel_rfl)
      (OpenSpec.preRow_of_cond 8 hx (by kernel_rfl) (fun k hk => by cases hk) (by kernel_rfl) (laid_met os))) ?_
  intro W base args ds gs before hval hW _ _ _ hL _ _
  exact contract hsan H enc W base args ds gs before hval hW

theorem said (hsan : ∀ W, Calls Tryd.prog 16 #[] W fun e w' => e = .returned (.bool true) ∧ Below W.heap.size W w') : Rows.TurnResiduesSaid :=
  OpenClaim.holds_of_cond 11 Tryd.f11 rfl rfl rfl rfl rfl rfl rfl ⟨rfl, rfl, rfl, rfl, rfl⟩ rfl rfl rfl rfl rfl (by kernel_rfl) Tryd.func11 (by kernel_rfl)
    (of_decide_eq_true (by kernel_rfl)) (by unfold Func.isWrapper; first | (rw [if_pos (by decide +kernel)]; kernel_rfl) | (rw [if_neg (by decide +kernel)]; exact ⟨rfl, rfl⟩))
    (fun os started H enc _ F => by rw [OpenClaim.pre_eq_preRow]; exact lifted hsan os started H enc F)

/-- No parameter wants a stand-in; the program's own looks are off: what the card asks. -/
theorem plain (f : FuncId) (fn : Func) (hf : Tryd.pinned.checked.prog.funcNamed "drowner/drownerlaw01.TurnResidues" = some f) (hfn : Tryd.pinned.checked.prog.funcs[f]? = some fn) :
    false = Tryd.pinned.checked.prog.looks [] ∧ ∀ (j : Nat) t, fn.params[j]? = some t → Tryd.pinned.checked.prog.wantsStandIn t = false := by
  obtain rfl : f = 11 := Option.some.inj ((show Tryd.prog.funcNamed "drowner/drownerlaw01.TurnResidues" = some 11 by kernel_rfl).symm.trans hf) |>.symm
  obtain rfl : fn = Tryd.f11 := (Option.some.inj (Tryd.func11.symm.trans hfn)).symm
  refine ⟨by kernel_rfl, fun j t ht => ?_⟩
  rw [Tryd.params11] at ht
  have hm := Array.mem_of_getElem? ht
  simp at hm
  rcases hm with rfl | rfl | rfl
  · exact (show Tryd.prog.wantsStandIn 27 = false by kernel_rfl)
  · exact (show Tryd.prog.wantsStandIn 3 = false by kernel_rfl)
  · exact (show Tryd.prog.wantsStandIn 80 = false by kernel_rfl)

theorem card (hsan : ∀ W, Calls Tryd.prog 16 #[] W fun e w' => e = .returned (.bool true) ∧ Below W.heap.size W w') : Rows.TurnResiduesCardSaid :=
  Claim7.holds_tied_plain_at .later [] _ _ _ _ (said hsan) (fun _ h => by cases h) (by kernel_rfl) (fun _ h => by cases h) turnResidues_row_tie rfl ⟨rfl, rfl⟩ (by kernel_rfl) rfl plain (by kernel_rfl)
end turnResidues
end Go.Proofs.YtlhgpeelenelbaaDoor

/- The law TurnResidues holds for every input: two turns, a modulus and a number. No condition beside the statement's own. -/
namespace Go.Proofs.YtlhgpeelenelbaaDoor
theorem turnResidues_holds : Rows.TurnResiduesCardSaid := turnResidues.card sanity_any
end Go.Proofs.YtlhgpeelenelbaaDoor
