/- Plain mathematics: what the law TurnResidues asks of First, Apart, Often and CheckApart. -/
import Derived.Test.YtlhgpeelenelbaaDoorMA
namespace Go.Proofs.YtlhgpeelenelbaaDoor

theorem iT_one {p f l n : Int} : iT p f l n = 1 ↔ inT p f l n := by
  unfold iT inT; split <;> simp_all
theorem iT_cases (p f l n : Int) : iT p f l n = 0 ∨ iT p f l n = 1 := by
  unfold iT; split <;> simp
theorem iT_both (pa fa la pb fb lb n : Int) : (iT pa fa la n * iT pb fb lb n = 1 ∧ both pa fa la pb fb lb n) ∨ (iT pa fa la n * iT pb fb lb n = 0 ∧ ¬ both pa fa la pb fb lb n) := by
  unfold both
  rw [← iT_one, ← iT_one]
  rcases iT_cases pa fa la n with h | h <;> rcases iT_cases pb fb lb n with k | k <;> rw [h, k] <;> simp
theorem sm_zero_all {f : Nat → Int} (h : ∀ i, 0 ≤ f i) : ∀ n : Nat, sm f n = 0 → ∀ i, i < n → f i = 0
  | 0, _, i, hi => by omega
  | n + 1, hs, i, hi => by
    have hs' : sm f n + f n = 0 := hs
    have a : 0 ≤ sm f n := by
      clear hs hs' hi
      induction n with
      | zero => exact Int.le_refl _
      | succ n ih => have b : sm f (n + 1) = sm f n + f n := rfl; have := h n; omega
    have b := h n
    by_cases c : i = n
    · subst c; omega
    · exact sm_zero_all h n (by omega) i (by omega)

/-- All that the law asks. -/
structure ResIs (pa fa la pb fb lb N c m : Int) (b : Bool) (n l : Int) : Prop where
  hc : (c = 0 ∧ b = false ∧ n ≠ 0) ∨ (c = 5 ∧ b = true ∧ n = 0)
  l1 : 1 ≤ l
  l2 : l ≤ 40320 * 40320
  za : l % pa = 0
  zb : l % pb = 0
  N0 : 0 ≤ N
  N1 : N < l
  hN : c = 0 → inT pa fa la N ∧ inT pb fb lb N ∧ inT pa fa la (N + 3 * l) ∧ inT pb fb lb (N + 3 * l)
  hm : b = true → apB pa fa la pb fb lb m = true
  hs : ∀ m', apB pa fa la pb fb lb m' = true → b = true ∧ m ≤ m'
  hn : ∀ s, n = sm (fun t => iT pa fa la (s + t) * iT pb fb lb (s + t)) l.toNat
  hk : ∀ k, inT pa fa la k → inT pb fb lb k → N ≤ k % l
  hb : 0 ≤ n ∧ n ≤ l

theorem apB_parts {pa fa la pb fb lb m : Int} (h : apB pa fa la pb fb lb m = true) : 1 ≤ m ∧ m ∣ pa ∧ m ∣ pb ∧ kaB la ((fb - fa) % m) lb m = true := by
  unfold apB at h
  rw [Bool.and_eq_true] at h
  have h' : 1 ≤ m ∧ pa % m = 0 ∧ pb % m = 0 := by simpa [dvB] using h.1
  exact ⟨h'.1, Int.dvd_of_emod_eq_zero h'.2.1, Int.dvd_of_emod_eq_zero h'.2.2, h.2⟩

theorem res_is {pa fa la pb fb lb N c m : Int} {b : Bool} (ha : TOk pa fa la) (hb : TOk pb fb lb) (hF : FirstIs pa fa la pb fb lb N c) (hA : ApartIs pa fa la pb fb lb (Int.gcd pa pb) m b) :
    ResIs pa fa la pb fb lb N c m b (oftenF fa la fb lb (Int.gcd pa pb) (Int.gcd pa pb)) (lcmF pa pb) := by
  have l1 := lcmF_pos ha.1 hb.1
  have l2 := lcmF_le ha.1 hb.1 ha.2.1 hb.2.1
  have La := lcmF_dvd_left pa pb
  have Lb := lcmF_dvd_right pa pb
  have g1 := gcd_pos (b := pb) ha.1
  have hn : ∀ s, oftenF fa la fb lb (Int.gcd pa pb) (Int.gcd pa pb) = sm (fun t => iT pa fa la (s + t) * iT pb fb lb (s + t)) (lcmF pa pb).toNat := by
    intro s
    have h := often_pairs (fa := fa) (la := la) (fb := fb) (lb := lb) g1 (by have := ha.2.2.2.2.1; omega) (by have := hb.2.2.2.2.1; omega)
    rw [Int.toNat_natCast] at h
    rw [h, row_count ha hb s]
  have hcut : ∀ i : Nat, 0 ≤ iT pa fa la ((0 : Int) + i) * iT pb fb lb ((0 : Int) + i) := by
    intro i
    rcases iT_both pa fa la pb fb lb ((0 : Int) + i) with h | h <;> omega
  have hbd : ∀ (s : Int) (i : Nat), 0 ≤ iT pa fa la (s + i) * iT pb fb lb (s + i) ∧ iT pa fa la (s + i) * iT pb fb lb (s + i) ≤ 1 := by
    intro s i
    rcases iT_both pa fa la pb fb lb (s + i) with h | h <;> omega
  have hsize : 0 ≤ oftenF fa la fb lb (Int.gcd pa pb) (Int.gcd pa pb) ∧ oftenF fa la fb lb (Int.gcd pa pb) (Int.gcd pa pb) ≤ lcmF pa pb := by
    rw [hn 0]
    have := sm_bd (hbd 0) (lcmF pa pb).toNat
    omega
  -- apart exactly if none meets
  have hap : ∀ m', apB pa fa la pb fb lb m' = true → ∀ n, ¬ both pa fa la pb fb lb n := by
    intro m' h n hn
    obtain ⟨h1, h2, h3, h4⟩ := apB_parts h
    exact apart_none ha hb h1 h2 h3 h4 n hn
  have hmin : ∀ m', apB pa fa la pb fb lb m' = true → b = true ∧ m ≤ m' := by
    intro m' h
    have k := apB_parts h
    rcases hA with ⟨hb', m0, m1, m2, m3⟩ | ⟨rfl, rfl, m3⟩
    · refine ⟨hb', ?_⟩
      by_cases d : m ≤ m'
      · exact d
      · rw [m3 m' (by omega) (by omega)] at h; cases h
    · have hle : m' ≤ (Int.gcd pa pb : Int) := Int.le_of_dvd (by omega) (Int.dvd_coe_gcd k.2.1 k.2.2.1)
      rw [m3 m' (by omega) hle] at h; cases h
  rcases hF with ⟨rfl, N0, _, hN, hl⟩ | ⟨rfl, rfl, hno⟩
  · have hbf : b = false := by
      cases hb' : b with
      | false => rfl
      | true =>
        subst hb'
        rcases hA with ⟨_, _, _, m2, _⟩ | ⟨h, _⟩
        · exact absurd hN (hap m m2 N)
        · cases h
    have hNl : N < lcmF pa pb := by
      have hr0 := Int.emod_nonneg N (show lcmF pa pb ≠ 0 by omega)
      have hr1 := Int.emod_lt_of_pos N (show 0 < lcmF pa pb by omega)
      by_cases d : N < lcmF pa pb
      · exact d
      · exact absurd (both_mod hN) (hl _ hr0 (by omega))
    refine ⟨.inl ⟨rfl, hbf, ?_⟩, l1, l2, Int.emod_eq_zero_of_dvd La, Int.emod_eq_zero_of_dvd Lb, N0, hNl, fun _ => ?_, fun h => (by rw [hbf] at h; cases h), hmin, hn, fun k k1 k2 => ?_, hsize⟩
    · intro hz
      rw [hn 0] at hz
      have := sm_zero_all hcut _ hz N.toNat (by omega)
      rcases iT_both pa fa la pb fb lb ((0 : Int) + (N.toNat : Nat)) with h | h
      · omega
      · apply h.2; rw [show (0 : Int) + (N.toNat : Nat) = N by omega]; exact hN
    · have h3 := both_congr (n := N + 3 * lcmF pa pb) (r := N) La Lb ⟨3, by omega⟩ hN
      exact ⟨hN.1, hN.2, h3.1, h3.2⟩
    · have hr0 := Int.emod_nonneg k (show lcmF pa pb ≠ 0 by omega)
      by_cases d : N ≤ k % lcmF pa pb
      · exact d
      · exact absurd (both_mod ⟨k1, k2⟩) (hl _ hr0 (by omega))
  · have hnone : ∀ n, ¬ both pa fa la pb fb lb n := fun n => none_of_below ha hb (fun m m0 _ => hno m m0) n
    have hbt : b = true := by
      cases hk : kaB la ((fb - fa) % (Int.gcd pa pb : Int)) lb (Int.gcd pa pb) with
      | false =>
        obtain ⟨n, _, n1, n2⟩ := meets ha hb hk
        exact absurd ⟨n1, n2⟩ (hnone n)
      | true =>
        have : apB pa fa la pb fb lb (Int.gcd pa pb) = true := by
          unfold apB
          rw [hk, Bool.and_true]
          simp only [dvB, decide_eq_true_eq]
          exact ⟨g1, Int.emod_eq_zero_of_dvd (Int.gcd_dvd_left ..), Int.emod_eq_zero_of_dvd (Int.gcd_dvd_right ..)⟩
        exact (hmin _ this).1
    refine ⟨.inr ⟨rfl, hbt, ?_⟩, l1, l2, Int.emod_eq_zero_of_dvd La, Int.emod_eq_zero_of_dvd Lb, Int.le_refl _, by omega, fun h => (by cases h), fun _ => ?_, hmin, hn, fun k k1 k2 => absurd ⟨k1, k2⟩ (hnone k), hsize⟩
    · rw [hn 0]
      refine sm_zero _ fun i _ => ?_
      rcases iT_both pa fa la pb fb lb ((0 : Int) + i) with h | h
      · exact absurd h.2 (hnone _)
      · exact h.1
    · rcases hA with ⟨_, _, _, m2, _⟩ | ⟨h, _⟩
      · exact m2
      · rw [hbt] at h; cases h
end Go.Proofs.YtlhgpeelenelbaaDoor

/- The law TurnResidues, its calls met by their contracts; sanity is a hypothesis here. -/
namespace Go.Proofs.YtlhgpeelenelbaaDoor
open Go.RowKit

set_option maxHeartbeats 1000000 in
theorem inTurn_any (p f l n : Int) (w : World) (h : TOk p f l) (h3 : -9000000000000 ≤ n) (h4 : n ≤ 9000000000000) :
    Calls Tryd.prog 57 #[tv p f l, .int .i64 n] w fun e w' => e = .returned (.bool (itB p f l n)) ∧ Below w.heap.size w w' := by
  obtain ⟨a1, a2, a3, a4, a5, a6⟩ := h
  have hz : (p == 0) = false := beq_eq_false_iff_ne.2 (by omega)
  have HF : Hid (itB p f l n = decide ((n - f) % p < l)) := Lib.hid rfl
  obtain ⟨x, hx⟩ : ∃ x, n - f = x := ⟨_, rfl⟩
  have W1 : IntKind.i64.wrap (n - f) = x := by rw [← hx]; exact IntWalk.i64_in _ (by omega)
  rw [hx] at HF
  have hx1 : -9000000100000 ≤ x ∧ x ≤ 9000000000000 := by omega
  clear hx
  by_cases hn : 0 ≤ x
  · have hp : 0 ≤ x % p := Int.emod_nonneg _ (by omega)
    go_enter Tryd.func57, Tryd.ntmps57
    go_wp2_with fail
    go_ret
    exact ⟨by rw [HF.out]; rfl, (Below.refl _ _).alloc (Nat.le_refl _) _⟩
  · have hlo : -p < x.tmod p := by have := Int.lt_tmod_of_pos x (show (0:Int) < p by omega); omega
    have hhi : x.tmod p ≤ 0 := by
      have := Int.tmod_nonneg (a := -x) p (by omega); rw [Int.neg_tmod] at this; omega
    have he : x % p = if x.tmod p < 0 then x.tmod p + p else x.tmod p := by
      have h1 := Int.tmod_eq_emod (a := x) (b := p)
      rw [h1]
      have h2 := Int.emod_nonneg x (show p ≠ 0 by omega)
      have h3 := Int.emod_lt_of_pos x (show 0 < p by omega)
      split <;> split <;> simp_all <;> omega
    have H := Lib.hid he
    clear he
    by_cases hm : x.tmod p < 0
    all_goals
      go_enter Tryd.func57, Tryd.ntmps57
      go_wp2_with fail
      go_ret
    · exact ⟨by rw [HF.out, H.out, if_pos hm]; rfl, (Below.refl _ _).alloc (Nat.le_refl _) _⟩
    · exact ⟨by rw [HF.out, H.out, if_neg (by omega)]; rfl, (Below.refl _ _).alloc (Nat.le_refl _) _⟩

set_option maxHeartbeats 4000000 in
set_option maxRecDepth 100000 in
theorem residues_bad (hsan : ∀ W, Calls Tryd.prog 16 #[] W fun e w' => e = .returned (.bool true) ∧ Below W.heap.size W w')
    (pa fa la pb fb lb m fr : Int) (w : World) (h : ¬ (TOk pa fa la ∧ TOk pb fb lb)) :
    Calls Tryd.prog 11 #[tv pa fa la, tv pb fb lb, .int .i64 m, .int .u16 fr] w fun e w' => e = .returned (.bool true) ∧ Below w.heap.size w w' := by
  have HA1 := Lib.hid fun W => first_bad pa fa la pb fb lb W (not_both h)
  have HA2 := Lib.hid fun W => apart_bad pa fa la pb fb lb W (not_both h)
  have HA3 := Lib.hid fun W => often_bad pa fa la pb fb lb W (not_both h)
  have HS := Lib.hid hsan
  clear hsan h
  have S0 := Lib.hid (SS.new (w := w) (pa := pa) (fa := fa) (la := la) (pb := pb) (fb := fb) (lb := lb) 27 27)
  go_enter Tryd.func11, Tryd.ntmps11
  go_wp2_with fail
  refine (HA1.out _).mono ?_
  rintro e w1 ⟨rfl, h1⟩
  have S1 := SS.below S0.out h1
  clear h1 S0
  have S1' := Lib.hid S1
  obtain ⟨t0, t1, t2, t3, t4, t5, t6, _⟩ := S1
  go_wp2_with fail
  refine (HA2.out _).mono ?_
  rintro e w2 ⟨rfl, h2⟩
  have S2 := SS.below S1'.out h2
  clear h2 S1' t0 t1 t2 t3 t4 t5 t6
  have S2' := Lib.hid S2
  obtain ⟨t0, t1, t2, t3, t4, t5, t6, _⟩ := S2
  go_wp2_with fail
  refine (HA3.out _).mono ?_
  rintro e w3 ⟨rfl, h3⟩
  have S3 := SS.below S2'.out h3
  clear h3 S2' t0 t1 t2 t3 t4 t5 t6
  have S3' := Lib.hid S3
  obtain ⟨t0, t1, t2, t3, t4, t5, t6, _⟩ := S3
  go_wp2_with fail
  refine (HS.out _).mono ?_
  rintro e w5 ⟨rfl, h5⟩
  have S5 := SS.below S3'.out h5
  clear h5 t0 t1 t2 t3 t4 t5 t6
  go_wp2_with fail
  go_ret
  exact ⟨rfl, S5.2.2.2.2.2.2.2⟩

set_option maxHeartbeats 4000000 in
set_option maxRecDepth 100000 in
theorem residues_good (hsan : ∀ W, Calls Tryd.prog 16 #[] W fun e w' => e = .returned (.bool true) ∧ Below W.heap.size W w')
    (pa fa la pb fb lb m fr : Int) (w : World) (ha : TOk pa fa la) (hb : TOk pb fb lb) (f0 : 0 ≤ fr) (f1 : fr ≤ 65535) :
    Calls Tryd.prog 11 #[tv pa fa la, tv pb fb lb, .int .i64 m, .int .u16 fr] w fun e w' => e = .returned (.bool true) ∧ Below w.heap.size w w' := by
  obtain ⟨N, c, hF⟩ := FirstIs.exists_ ha hb
  obtain ⟨am, ab, hA⟩ := ApartIs.exists_ pa fa la pb fb lb (Int.gcd pa pb)
  have HA1 : Hid (∀ W, Calls Tryd.prog 27 #[tv pa fa la, tv pb fb lb] W fun e w' => e = .returned (.tuple #[.int .i64 N, .int .i64 c]) ∧ Below W.heap.size W w') :=
    Lib.hid fun W => (first_ok pa fa la pb fb lb W ha hb).mono fun e w' ⟨m', c', hm', he, hb⟩ => by obtain ⟨rfl, rfl⟩ := hF.unique hm'; exact ⟨he, hb⟩
  have HA2 : Hid (∀ W, Calls Tryd.prog 31 #[tv pa fa la, tv pb fb lb] W fun e w' => e = .returned (.tuple #[.int .i64 am, .bool ab, .int .i64 0]) ∧ Below W.heap.size W w') :=
    Lib.hid fun W => (apart_ok pa fa la pb fb lb W ha hb).mono fun e w' ⟨m', c', hm', he, hb⟩ => by obtain ⟨rfl, rfl⟩ := hA.unique hm'; exact ⟨he, hb⟩
  have HA3 : ∀ W, Calls Tryd.prog 29 #[tv pa fa la, tv pb fb lb] W fun e w' => e = .returned (.tuple #[.int .i64 (oftenF fa la fb lb (Int.gcd pa pb) (Int.gcd pa pb)), .int .i64 (lcmF pa pb), .int .i64 0]) ∧ Below W.heap.size W w' := fun W => often_ok pa fa la pb fb lb W ha hb
  have R := res_is ha hb hF hA
  have HC := Lib.hid fun k W => checkApart_ok pa fa la pb fb lb k W ha hb
  have HIa := Lib.hid fun n W h3 h4 => inTurn_any pa fa la n W ha h3 h4
  have HIb := Lib.hid fun n W h3 h4 => inTurn_any pb fb lb n W hb h3 h4
  generalize oftenF fa la fb lb (Int.gcd pa pb) (Int.gcd pa pb) = n at *
  generalize lcmF pa pb = l at *
  have HA3 := Lib.hid HA3
  have HS := Lib.hid hsan
  have HR := Lib.hid R
  clear hsan hF hA R
  have S0 := Lib.hid (SS.new (w := w) (pa := pa) (fa := fa) (la := la) (pb := pb) (fb := fb) (lb := lb) 27 27)
  go_enter Tryd.func11, Tryd.ntmps11
  go_wp2_with fail
  refine (HA1.out _).mono ?_
  rintro e w1 ⟨rfl, h1⟩
  have S1 := SS.below S0.out h1
  clear h1 S0
  have S1' := Lib.hid S1
  obtain ⟨t0, t1, t2, t3, t4, t5, t6, _⟩ := S1
  go_wp2_with fail
  refine (HA2.out _).mono ?_
  rintro e w2 ⟨rfl, h2⟩
  have S2 := SS.below S1'.out h2
  clear h2 S1' t0 t1 t2 t3 t4 t5 t6
  have S2' := Lib.hid S2
  obtain ⟨t0, t1, t2, t3, t4, t5, t6, _⟩ := S2
  go_wp2_with fail
  refine (HA3.out _).mono ?_
  rintro e w3 ⟨rfl, h3⟩
  have S3 := SS.below S2'.out h3
  clear h3 S2' t0 t1 t2 t3 t4 t5 t6
  have S3' := Lib.hid S3
  obtain ⟨t0, t1, t2, t3, t4, t5, t6, _⟩ := S3
  have l1 := HR.out.l1
  have l2 := HR.out.l2
  have zl := HR.out.za
  have zr := HR.out.zb
  have ha1 := ha.1
  have hb1 := hb.1
  have hza : (pa == 0) = false := beq_eq_false_iff_ne.2 (by omega)
  have hzb : (pb == 0) = false := beq_eq_false_iff_ne.2 (by omega)
  have N0 := HR.out.N0
  have N1 := HR.out.N1
  have hcut : ∀ k, itB pa fa la k = decide ((k - fa) % pa < la) := fun _ => rfl
  have hcutb : ∀ k, itB pb fb lb k = decide ((k - fb) % pb < lb) := fun _ => rfl
  have itYes : ∀ {p f l k : Int}, inT p f l k → itB p f l k = true := fun h => decide_eq_true h
  rcases HR.out.hc with ⟨rfl, rfl, hn0⟩ | ⟨rfl, rfl, rfl⟩
  · have hnz : (n == 0) = false := beq_eq_false_iff_ne.2 hn0
    obtain ⟨i1, i2, i3, i4⟩ := HR.out.hN rfl
    have I1 := Lib.hid fun W => HIa.out N W (by omega) (by omega)
    have I2 := Lib.hid fun W => HIb.out N W (by omega) (by omega)
    have I3 := Lib.hid fun W => HIa.out (N + 3 * l) W (by omega) (by omega)
    have I4 := Lib.hid fun W => HIb.out (N + 3 * l) W (by omega) (by omega)
    rw [itYes i1] at I1
    rw [itYes i2] at I2
    rw [itYes i3] at I3
    rw [itYes i4] at I4
    have hx : apB pa fa la pb fb lb m = false := by
      cases hq : apB pa fa la pb fb lb m with
      | false => rfl
      | true => have := (HR.out.hs m hq).1; cases this
    have C1 := Lib.hid fun W => HC.out m W
    rw [hx] at C1
    have C1 : Hid (∀ W, Calls Tryd.prog 35 #[tv pa fa la, tv pb fb lb, .int .i64 m] W fun e w' => e = .returned (.int .i64 8) ∧ Below W.heap.size W w') := C1
    clear i1 i2 i3 i4 hcut hcutb itYes hx hn0
    go_wp2_with fail
    refine (I1.out _).mono ?_
    rintro e w4 ⟨rfl, hw4⟩
    have S := Lib.hid (SS.below S3'.out hw4)
    clear hw4 S3' t0 t1 t2 t3 t4 t5 t6
    obtain ⟨t0, t1, t2, t3, t4, t5, t6, _⟩ := S.out
    go_wp2_with fail
    refine (I2.out _).mono ?_
    rintro e w5 ⟨rfl, hw5⟩
    have S := Lib.hid (SS.below S.out hw5)
    clear hw5 t0 t1 t2 t3 t4 t5 t6
    obtain ⟨t0, t1, t2, t3, t4, t5, t6, _⟩ := S.out
    go_wp2_with fail
    refine (I3.out _).mono ?_
    rintro e w6 ⟨rfl, hw6⟩
    have S := Lib.hid (SS.below S.out hw6)
    clear hw6 t0 t1 t2 t3 t4 t5 t6
    obtain ⟨t0, t1, t2, t3, t4, t5, t6, _⟩ := S.out
    go_wp2_with fail
    refine (I4.out _).mono ?_
    rintro e w7 ⟨rfl, hw7⟩
    have S := Lib.hid (SS.below S.out hw7)
    clear hw7 t0 t1 t2 t3 t4 t5 t6
    obtain ⟨t0, t1, t2, t3, t4, t5, t6, _⟩ := S.out
    go_wp2_with fail
    refine (C1.out _).mono ?_
    rintro e w8 ⟨rfl, hw8⟩
    have S := Lib.hid (SS.below S.out hw8)
    clear hw8 t0 t1 t2 t3 t4 t5 t6
    obtain ⟨t0, t1, t2, t3, t4, t5, t6, _⟩ := S.out
    clear C1 I1 I2 I3 I4
    by_cases hl3 : 3000 < l
    · go_wp2_with fail
      refine (HS.out _).mono ?_
      rintro e wz ⟨rfl, hwz⟩
      have S := Lib.hid (SS.below S.out hwz)
      clear hwz t0 t1 t2 t3 t4 t5 t6
      go_wp2_with fail
      go_ret
      exact ⟨rfl, S.out.2.2.2.2.2.2.2⟩
    · go_wp2_with fail
      obtain ⟨ln, rfl⟩ : ∃ ln : Nat, l = ln := ⟨l.toNat, by omega⟩
      have hfin := Lib.hid (HR.out.hn fr)
      have hlz : ((ln : Int) == 0) = false := beq_eq_false_iff_ne.2 (by omega)
      have hkk := Lib.hid HR.out.hk
      have hbd : Hid (∀ (i : Nat), 0 ≤ sm (fun t => iT pa fa la (fr + t) * iT pb fb lb (fr + t)) i ∧ sm (fun t => iT pa fa la (fr + t) * iT pb fb lb (fr + t)) i ≤ i) := Lib.hid (sm_bd fun i => by rcases iT_both pa fa la pb fb lb (fr + i) with h | h <;> omega)
      go_loopw [18, 19] (fun u v wr => ∃ t : Nat, v = .int .i64 (fr + t) ∧ t ≤ ln ∧ (∃ o, u = .int .i64 o ∧ o = sm (fun t => iT pa fa la (fr + t) * iT pb fb lb (fr + t)) t) ∧ SS w pa fa la pb fb lb wr) (fun _ v _ => (fr + ln - intOf v).toNat)
      case atStart => exact ⟨0, by simp, by omega, ⟨0, rfl, rfl⟩, S.out⟩
      case round =>
        obtain ⟨t, rfl, ht, ⟨o, rfl, ho⟩, S9⟩ := hrel
        clear t0 t1 t2 t3 t4 t5 t6
        have S9' := Lib.hid S9
        obtain ⟨t0, t1, t2, t3, t4, t5, t6, _⟩ := S9
        have hb0 := hbd.out t
        rw [← ho] at hb0
        obtain ⟨o1, o2⟩ := hb0
        have Ho := Lib.hid ho
        clear ho
        have HO : Hid (sm (fun t => iT pa fa la (fr + t) * iT pb fb lb (fr + t)) (t + 1) = o + iT pa fa la (fr + t) * iT pb fb lb (fr + t)) := Lib.hid (by rw [Ho.out]; rfl)
        by_cases hlt : t < ln
        · obtain ⟨k, hk⟩ : ∃ k, fr + (t : Int) = k := ⟨_, rfl⟩
          have Ia := Lib.hid fun W => HIa.out k W (by omega) (by omega)
          have Ib := Lib.hid fun W => HIb.out k W (by omega) (by omega)
          have hkl : k < fr + (ln : Int) := by omega
          have hk0 : 0 ≤ k := by omega
          have hk1 : k ≤ 100000 := by omega
          have hkt : fr + ((t + 1 : Nat) : Int) = k + 1 := by omega
          have Hkt := Lib.hid hkt
          have Hk := Lib.hid hk
          rw [hk] at HO ⊢
          clear hk hkt
          have hv1 : itB pa fa la k = true → inT pa fa la k := fun h => of_decide_eq_true (p := (k - fa) % pa < la) h
          have hv2 : itB pb fb lb k = true → inT pb fb lb k := fun h => of_decide_eq_true (p := (k - fb) % pb < lb) h
          have hv3 : itB pa fa la k = false → iT pa fa la k = 0 := fun h => by unfold iT; rw [if_neg (of_decide_eq_false h)]
          have hv4 : itB pb fb lb k = false → iT pb fb lb k = 0 := fun h => by unfold iT; rw [if_neg (of_decide_eq_false h)]
          cases ea : itB pa fa la k with
          | false =>
            have hz0 := Lib.hid (hv3 ea)
            rw [ea] at Ia
            clear ea hv1 hv2 hv3 hv4 hlt
            go_wp2_with fail
            refine (Ia.out _).mono ?_
            rintro e wa ⟨rfl, ha'⟩
            have Sa := Lib.hid (SS.below S9'.out ha')
            clear ha' t0 t1 t2 t3 t4 t5 t6
            obtain ⟨t0, t1, t2, t3, t4, t5, t6, _⟩ := Sa.out
            go_wp2_with fail
            go_roundw
            case rel => exact ⟨t + 1, congrArg (Value.int .i64) Hkt.out.symm, (by have := Hk.out; omega), ⟨_, rfl, by rw [HO.out, hz0.out]; omega⟩, Sa.out⟩
            case measure => have := Hk.out; show (fr + ln - (k + 1)).toNat < (fr + ln - k).toNat; omega
          | true =>
            have iv1 := Lib.hid (hv1 ea)
            rw [ea] at Ia
            cases eb : itB pb fb lb k with
            | false =>
              have hz0 := Lib.hid (hv4 eb)
              rw [eb] at Ib
              clear ea eb hv1 hv2 hv3 hv4 hlt
              go_wp2_with fail
              refine (Ia.out _).mono ?_
              rintro e wa ⟨rfl, ha'⟩
              have Sa := Lib.hid (SS.below S9'.out ha')
              clear ha' t0 t1 t2 t3 t4 t5 t6
              obtain ⟨t0, t1, t2, t3, t4, t5, t6, _⟩ := Sa.out
              go_wp2_with fail
              refine (Ib.out _).mono ?_
              rintro e wb ⟨rfl, hb'⟩
              have Sb := Lib.hid (SS.below Sa.out hb')
              clear hb' t0 t1 t2 t3 t4 t5 t6
              obtain ⟨t0, t1, t2, t3, t4, t5, t6, _⟩ := Sb.out
              go_wp2_with fail
              go_roundw
              case rel => exact ⟨t + 1, congrArg (Value.int .i64) Hkt.out.symm, (by have := Hk.out; omega), ⟨_, rfl, by rw [HO.out, hz0.out]; omega⟩, Sb.out⟩
              case measure => have := Hk.out; show (fr + ln - (k + 1)).toNat < (fr + ln - k).toNat; omega
            | true =>
              have iv2 := Lib.hid (hv2 eb)
              rw [eb] at Ib
              have hNk : N ≤ k % (ln : Int) := hkk.out k iv1.out iv2.out
              have hko : Hid (iT pa fa la k * iT pb fb lb k = 1) := Lib.hid (by rw [iT_one.2 iv1.out, iT_one.2 iv2.out]; rfl)
              clear ea eb hv1 hv2 hv3 hv4 hlt
              go_wp2_with fail
              refine (Ia.out _).mono ?_
              rintro e wa ⟨rfl, ha'⟩
              have Sa := Lib.hid (SS.below S9'.out ha')
              clear ha' t0 t1 t2 t3 t4 t5 t6
              obtain ⟨t0, t1, t2, t3, t4, t5, t6, _⟩ := Sa.out
              go_wp2_with fail
              refine (Ib.out _).mono ?_
              rintro e wb ⟨rfl, hb'⟩
              have Sb := Lib.hid (SS.below Sa.out hb')
              clear hb' t0 t1 t2 t3 t4 t5 t6
              obtain ⟨t0, t1, t2, t3, t4, t5, t6, _⟩ := Sb.out
              go_wp2_with fail
              go_roundw
              case rel => exact ⟨t + 1, congrArg (Value.int .i64) Hkt.out.symm, (by have := Hk.out; omega), ⟨_, rfl, by rw [HO.out, hko.out]⟩, Sb.out⟩
              case measure => have := Hk.out; show (fr + ln - (k + 1)).toNat < (fr + ln - k).toNat; omega
        · obtain rfl : t = ln := by omega
          have hlast : o = n := by rw [Ho.out, hfin.out, Int.toNat_natCast]
          subst hlast
          go_wp2_with fail
          refine (HS.out _).mono ?_
          rintro e wz ⟨rfl, hwz⟩
          have Sz := Lib.hid (SS.below S9'.out hwz)
          clear hwz t0 t1 t2 t3 t4 t5 t6
          go_wp2_with fail
          go_ret
          exact ⟨rfl, Sz.out.2.2.2.2.2.2.2⟩
  · clear hcut hcutb itYes
    have C2 := Lib.hid fun W => HC.out am W
    rw [HR.out.hm rfl] at C2
    have C2 : Hid (∀ W, Calls Tryd.prog 35 #[tv pa fa la, tv pb fb lb, .int .i64 am] W fun e w' => e = .returned (.int .i64 0) ∧ Below W.heap.size W w') := C2
    have hmm := HR.out.hs m
    have C1 := Lib.hid fun W => HC.out m W
    cases hq : apB pa fa la pb fb lb m with
    | false =>
      rw [hq] at C1
      have C1 : Hid (∀ W, Calls Tryd.prog 35 #[tv pa fa la, tv pb fb lb, .int .i64 m] W fun e w' => e = .returned (.int .i64 8) ∧ Below W.heap.size W w') := C1
      clear hmm hq
      go_wp2_with fail
      refine (C1.out _).mono ?_
      rintro e w8 ⟨rfl, hw8⟩
      have S := Lib.hid (SS.below S3'.out hw8)
      clear hw8 S3' t0 t1 t2 t3 t4 t5 t6
      obtain ⟨t0, t1, t2, t3, t4, t5, t6, _⟩ := S.out
      go_wp2_with fail
      refine (C2.out _).mono ?_
      rintro e w9 ⟨rfl, hw9⟩
      have S := Lib.hid (SS.below S.out hw9)
      clear hw9 t0 t1 t2 t3 t4 t5 t6
      obtain ⟨t0, t1, t2, t3, t4, t5, t6, _⟩ := S.out
      clear C1 C2
      by_cases hl3 : 3000 < l
      · go_wp2_with fail
        refine (HS.out _).mono ?_
        rintro e wz ⟨rfl, hwz⟩
        have S := Lib.hid (SS.below S.out hwz)
        clear hwz t0 t1 t2 t3 t4 t5 t6
        go_wp2_with fail
        go_ret
        exact ⟨rfl, S.out.2.2.2.2.2.2.2⟩
      · go_wp2_with fail
        obtain ⟨ln, rfl⟩ : ∃ ln : Nat, l = ln := ⟨l.toNat, by omega⟩
        have hfin := Lib.hid (HR.out.hn fr)
        have hlz : ((ln : Int) == 0) = false := beq_eq_false_iff_ne.2 (by omega)
        have hkk := Lib.hid HR.out.hk
        have hbd : Hid (∀ (i : Nat), 0 ≤ sm (fun t => iT pa fa la (fr + t) * iT pb fb lb (fr + t)) i ∧ sm (fun t => iT pa fa la (fr + t) * iT pb fb lb (fr + t)) i ≤ i) := Lib.hid (sm_bd fun i => by rcases iT_both pa fa la pb fb lb (fr + i) with h | h <;> omega)
        go_loopw [18, 19] (fun u v wr => ∃ t : Nat, v = .int .i64 (fr + t) ∧ t ≤ ln ∧ (∃ o, u = .int .i64 o ∧ o = sm (fun t => iT pa fa la (fr + t) * iT pb fb lb (fr + t)) t) ∧ SS w pa fa la pb fb lb wr) (fun _ v _ => (fr + ln - intOf v).toNat)
        case atStart => exact ⟨0, by simp, by omega, ⟨0, rfl, rfl⟩, S.out⟩
        case round =>
          obtain ⟨t, rfl, ht, ⟨o, rfl, ho⟩, S9⟩ := hrel
          clear t0 t1 t2 t3 t4 t5 t6
          have S9' := Lib.hid S9
          obtain ⟨t0, t1, t2, t3, t4, t5, t6, _⟩ := S9
          have hb0 := hbd.out t
          rw [← ho] at hb0
          obtain ⟨o1, o2⟩ := hb0
          have Ho := Lib.hid ho
          clear ho
          have HO : Hid (sm (fun t => iT pa fa la (fr + t) * iT pb fb lb (fr + t)) (t + 1) = o + iT pa fa la (fr + t) * iT pb fb lb (fr + t)) := Lib.hid (by rw [Ho.out]; rfl)
          by_cases hlt : t < ln
          · obtain ⟨k, hk⟩ : ∃ k, fr + (t : Int) = k := ⟨_, rfl⟩
            have Ia := Lib.hid fun W => HIa.out k W (by omega) (by omega)
            have Ib := Lib.hid fun W => HIb.out k W (by omega) (by omega)
            have hkl : k < fr + (ln : Int) := by omega
            have hk0 : 0 ≤ k := by omega
            have hk1 : k ≤ 100000 := by omega
            have hkt : fr + ((t + 1 : Nat) : Int) = k + 1 := by omega
            have Hkt := Lib.hid hkt
            have Hk := Lib.hid hk
            rw [hk] at HO ⊢
            clear hk hkt
            have hv1 : itB pa fa la k = true → inT pa fa la k := fun h => of_decide_eq_true (p := (k - fa) % pa < la) h
            have hv2 : itB pb fb lb k = true → inT pb fb lb k := fun h => of_decide_eq_true (p := (k - fb) % pb < lb) h
            have hv3 : itB pa fa la k = false → iT pa fa la k = 0 := fun h => by unfold iT; rw [if_neg (of_decide_eq_false h)]
            have hv4 : itB pb fb lb k = false → iT pb fb lb k = 0 := fun h => by unfold iT; rw [if_neg (of_decide_eq_false h)]
            cases ea : itB pa fa la k with
            | false =>
              have hz0 := Lib.hid (hv3 ea)
              rw [ea] at Ia
              clear ea hv1 hv2 hv3 hv4 hlt
              go_wp2_with fail
              refine (Ia.out _).mono ?_
              rintro e wa ⟨rfl, ha'⟩
              have Sa := Lib.hid (SS.below S9'.out ha')
              clear ha' t0 t1 t2 t3 t4 t5 t6
              obtain ⟨t0, t1, t2, t3, t4, t5, t6, _⟩ := Sa.out
              go_wp2_with fail
              go_roundw
              case rel => exact ⟨t + 1, congrArg (Value.int .i64) Hkt.out.symm, (by have := Hk.out; omega), ⟨_, rfl, by rw [HO.out, hz0.out]; omega⟩, Sa.out⟩
              case measure => have := Hk.out; show (fr + ln - (k + 1)).toNat < (fr + ln - k).toNat; omega
            | true =>
              have iv1 := Lib.hid (hv1 ea)
              rw [ea] at Ia
              cases eb : itB pb fb lb k with
              | false =>
                have hz0 := Lib.hid (hv4 eb)
                rw [eb] at Ib
                clear ea eb hv1 hv2 hv3 hv4 hlt
                go_wp2_with fail
                refine (Ia.out _).mono ?_
                rintro e wa ⟨rfl, ha'⟩
                have Sa := Lib.hid (SS.below S9'.out ha')
                clear ha' t0 t1 t2 t3 t4 t5 t6
                obtain ⟨t0, t1, t2, t3, t4, t5, t6, _⟩ := Sa.out
                go_wp2_with fail
                refine (Ib.out _).mono ?_
                rintro e wb ⟨rfl, hb'⟩
                have Sb := Lib.hid (SS.below Sa.out hb')
                clear hb' t0 t1 t2 t3 t4 t5 t6
                obtain ⟨t0, t1, t2, t3, t4, t5, t6, _⟩ := Sb.out
                go_wp2_with fail
                go_roundw
                case rel => exact ⟨t + 1, congrArg (Value.int .i64) Hkt.out.symm, (by have := Hk.out; omega), ⟨_, rfl, by rw [HO.out, hz0.out]; omega⟩, Sb.out⟩
                case measure => have := Hk.out; show (fr + ln - (k + 1)).toNat < (fr + ln - k).toNat; omega
              | true =>
                have iv2 := Lib.hid (hv2 eb)
                rw [eb] at Ib
                have hNk : N ≤ k % (ln : Int) := hkk.out k iv1.out iv2.out
                have hko : Hid (iT pa fa la k * iT pb fb lb k = 1) := Lib.hid (by rw [iT_one.2 iv1.out, iT_one.2 iv2.out]; rfl)
                clear ea eb hv1 hv2 hv3 hv4 hlt
                go_wp2_with fail
                refine (Ia.out _).mono ?_
                rintro e wa ⟨rfl, ha'⟩
                have Sa := Lib.hid (SS.below S9'.out ha')
                clear ha' t0 t1 t2 t3 t4 t5 t6
                obtain ⟨t0, t1, t2, t3, t4, t5, t6, _⟩ := Sa.out
                go_wp2_with fail
                refine (Ib.out _).mono ?_
                rintro e wb ⟨rfl, hb'⟩
                have Sb := Lib.hid (SS.below Sa.out hb')
                clear hb' t0 t1 t2 t3 t4 t5 t6
                obtain ⟨t0, t1, t2, t3, t4, t5, t6, _⟩ := Sb.out
                go_wp2_with fail
                go_roundw
                case rel => exact ⟨t + 1, congrArg (Value.int .i64) Hkt.out.symm, (by have := Hk.out; omega), ⟨_, rfl, by rw [HO.out, hko.out]⟩, Sb.out⟩
                case measure => have := Hk.out; show (fr + ln - (k + 1)).toNat < (fr + ln - k).toNat; omega
          · obtain rfl : t = ln := by omega
            have hlast : o = 0 := by rw [Ho.out, hfin.out, Int.toNat_natCast]
            subst hlast
            go_wp2_with fail
            refine (HS.out _).mono ?_
            rintro e wz ⟨rfl, hwz⟩
            have Sz := Lib.hid (SS.below S9'.out hwz)
            clear hwz t0 t1 t2 t3 t4 t5 t6
            go_wp2_with fail
            go_ret
            exact ⟨rfl, Sz.out.2.2.2.2.2.2.2⟩
    | true =>
      rw [hq] at C1
      have C1 : Hid (∀ W, Calls Tryd.prog 35 #[tv pa fa la, tv pb fb lb, .int .i64 m] W fun e w' => e = .returned (.int .i64 0) ∧ Below W.heap.size W w') := C1
      have hmm := (hmm hq).2
      clear hq
      go_wp2_with fail
      refine (C1.out _).mono ?_
      rintro e w8 ⟨rfl, hw8⟩
      have S := Lib.hid (SS.below S3'.out hw8)
      clear hw8 S3' t0 t1 t2 t3 t4 t5 t6
      obtain ⟨t0, t1, t2, t3, t4, t5, t6, _⟩ := S.out
      go_wp2_with fail
      refine (C2.out _).mono ?_
      rintro e w9 ⟨rfl, hw9⟩
      have S := Lib.hid (SS.below S.out hw9)
      clear hw9 t0 t1 t2 t3 t4 t5 t6
      obtain ⟨t0, t1, t2, t3, t4, t5, t6, _⟩ := S.out
      clear C1 C2
      by_cases hl3 : 3000 < l
      · go_wp2_with fail
        refine (HS.out _).mono ?_
        rintro e wz ⟨rfl, hwz⟩
        have S := Lib.hid (SS.below S.out hwz)
        clear hwz t0 t1 t2 t3 t4 t5 t6
        go_wp2_with fail
        go_ret
        exact ⟨rfl, S.out.2.2.2.2.2.2.2⟩
      · go_wp2_with fail
        obtain ⟨ln, rfl⟩ : ∃ ln : Nat, l = ln := ⟨l.toNat, by omega⟩
        have hfin := Lib.hid (HR.out.hn fr)
        have hlz : ((ln : Int) == 0) = false := beq_eq_false_iff_ne.2 (by omega)
        have hkk := Lib.hid HR.out.hk
        have hbd : Hid (∀ (i : Nat), 0 ≤ sm (fun t => iT pa fa la (fr + t) * iT pb fb lb (fr + t)) i ∧ sm (fun t => iT pa fa la (fr + t) * iT pb fb lb (fr + t)) i ≤ i) := Lib.hid (sm_bd fun i => by rcases iT_both pa fa la pb fb lb (fr + i) with h | h <;> omega)
        go_loopw [18, 19] (fun u v wr => ∃ t : Nat, v = .int .i64 (fr + t) ∧ t ≤ ln ∧ (∃ o, u = .int .i64 o ∧ o = sm (fun t => iT pa fa la (fr + t) * iT pb fb lb (fr + t)) t) ∧ SS w pa fa la pb fb lb wr) (fun _ v _ => (fr + ln - intOf v).toNat)
        case atStart => exact ⟨0, by simp, by omega, ⟨0, rfl, rfl⟩, S.out⟩
        case round =>
          obtain ⟨t, rfl, ht, ⟨o, rfl, ho⟩, S9⟩ := hrel
          clear t0 t1 t2 t3 t4 t5 t6
          have S9' := Lib.hid S9
          obtain ⟨t0, t1, t2, t3, t4, t5, t6, _⟩ := S9
          have hb0 := hbd.out t
          rw [← ho] at hb0
          obtain ⟨o1, o2⟩ := hb0
          have Ho := Lib.hid ho
          clear ho
          have HO : Hid (sm (fun t => iT pa fa la (fr + t) * iT pb fb lb (fr + t)) (t + 1) = o + iT pa fa la (fr + t) * iT pb fb lb (fr + t)) := Lib.hid (by rw [Ho.out]; rfl)
          by_cases hlt : t < ln
          · obtain ⟨k, hk⟩ : ∃ k, fr + (t : Int) = k := ⟨_, rfl⟩
            have Ia := Lib.hid fun W => HIa.out k W (by omega) (by omega)
            have Ib := Lib.hid fun W => HIb.out k W (by omega) (by omega)
            have hkl : k < fr + (ln : Int) := by omega
            have hk0 : 0 ≤ k := by omega
            have hk1 : k ≤ 100000 := by omega
            have hkt : fr + ((t + 1 : Nat) : Int) = k + 1 := by omega
            have Hkt := Lib.hid hkt
            have Hk := Lib.hid hk
            rw [hk] at HO ⊢
            clear hk hkt
            have hv1 : itB pa fa la k = true → inT pa fa la k := fun h => of_decide_eq_true (p := (k - fa) % pa < la) h
            have hv2 : itB pb fb lb k = true → inT pb fb lb k := fun h => of_decide_eq_true (p := (k - fb) % pb < lb) h
            have hv3 : itB pa fa la k = false → iT pa fa la k = 0 := fun h => by unfold iT; rw [if_neg (of_decide_eq_false h)]
            have hv4 : itB pb fb lb k = false → iT pb fb lb k = 0 := fun h => by unfold iT; rw [if_neg (of_decide_eq_false h)]
            cases ea : itB pa fa la k with
            | false =>
              have hz0 := Lib.hid (hv3 ea)
              rw [ea] at Ia
              clear ea hv1 hv2 hv3 hv4 hlt
              go_wp2_with fail
              refine (Ia.out _).mono ?_
              rintro e wa ⟨rfl, ha'⟩
              have Sa := Lib.hid (SS.below S9'.out ha')
              clear ha' t0 t1 t2 t3 t4 t5 t6
              obtain ⟨t0, t1, t2, t3, t4, t5, t6, _⟩ := Sa.out
              go_wp2_with fail
              go_roundw
              case rel => exact ⟨t + 1, congrArg (Value.int .i64) Hkt.out.symm, (by have := Hk.out; omega), ⟨_, rfl, by rw [HO.out, hz0.out]; omega⟩, Sa.out⟩
              case measure => have := Hk.out; show (fr + ln - (k + 1)).toNat < (fr + ln - k).toNat; omega
            | true =>
              have iv1 := Lib.hid (hv1 ea)
              rw [ea] at Ia
              cases eb : itB pb fb lb k with
              | false =>
                have hz0 := Lib.hid (hv4 eb)
                rw [eb] at Ib
                clear ea eb hv1 hv2 hv3 hv4 hlt
                go_wp2_with fail
                refine (Ia.out _).mono ?_
                rintro e wa ⟨rfl, ha'⟩
                have Sa := Lib.hid (SS.below S9'.out ha')
                clear ha' t0 t1 t2 t3 t4 t5 t6
                obtain ⟨t0, t1, t2, t3, t4, t5, t6, _⟩ := Sa.out
                go_wp2_with fail
                refine (Ib.out _).mono ?_
                rintro e wb ⟨rfl, hb'⟩
                have Sb := Lib.hid (SS.below Sa.out hb')
                clear hb' t0 t1 t2 t3 t4 t5 t6
                obtain ⟨t0, t1, t2, t3, t4, t5, t6, _⟩ := Sb.out
                go_wp2_with fail
                go_roundw
                case rel => exact ⟨t + 1, congrArg (Value.int .i64) Hkt.out.symm, (by have := Hk.out; omega), ⟨_, rfl, by rw [HO.out, hz0.out]; omega⟩, Sb.out⟩
                case measure => have := Hk.out; show (fr + ln - (k + 1)).toNat < (fr + ln - k).toNat; omega
              | true =>
                have iv2 := Lib.hid (hv2 eb)
                rw [eb] at Ib
                have hNk : N ≤ k % (ln : Int) := hkk.out k iv1.out iv2.out
                have hko : Hid (iT pa fa la k * iT pb fb lb k = 1) := Lib.hid (by rw [iT_one.2 iv1.out, iT_one.2 iv2.out]; rfl)
                clear ea eb hv1 hv2 hv3 hv4 hlt
                go_wp2_with fail
                refine (Ia.out _).mono ?_
                rintro e wa ⟨rfl, ha'⟩
                have Sa := Lib.hid (SS.below S9'.out ha')
                clear ha' t0 t1 t2 t3 t4 t5 t6
                obtain ⟨t0, t1, t2, t3, t4, t5, t6, _⟩ := Sa.out
                go_wp2_with fail
                refine (Ib.out _).mono ?_
                rintro e wb ⟨rfl, hb'⟩
                have Sb := Lib.hid (SS.below Sa.out hb')
                clear hb' t0 t1 t2 t3 t4 t5 t6
                obtain ⟨t0, t1, t2, t3, t4, t5, t6, _⟩ := Sb.out
                go_wp2_with fail
                go_roundw
                case rel => exact ⟨t + 1, congrArg (Value.int .i64) Hkt.out.symm, (by have := Hk.out; omega), ⟨_, rfl, by rw [HO.out, hko.out]⟩, Sb.out⟩
                case measure => have := Hk.out; show (fr + ln - (k + 1)).toNat < (fr + ln - k).toNat; omega
          · obtain rfl : t = ln := by omega
            have hlast : o = 0 := by rw [Ho.out, hfin.out, Int.toNat_natCast]
            subst hlast
            go_wp2_with fail
            refine (HS.out _).mono ?_
            rintro e wz ⟨rfl, hwz⟩
            have Sz := Lib.hid (SS.below S9'.out hwz)
            clear hwz t0 t1 t2 t3 t4 t5 t6
            go_wp2_with fail
            go_ret
            exact ⟨rfl, Sz.out.2.2.2.2.2.2.2⟩

theorem turnResidues_calls (hsan : ∀ W, Calls Tryd.prog 16 #[] W fun e w' => e = .returned (.bool true) ∧ Below W.heap.size W w')
    (pa fa la pb fb lb m fr : Int) (w : World) (f0 : 0 ≤ fr) (f1 : fr ≤ 65535) :
    Calls Tryd.prog 11 #[tv pa fa la, tv pb fb lb, .int .i64 m, .int .u16 fr] w fun e w' => e = .returned (.bool true) ∧ Below w.heap.size w w' := by
  by_cases h : TOk pa fa la ∧ TOk pb fb lb
  · exact residues_good hsan pa fa la pb fb lb m fr w h.1 h.2 f0 f1
  · exact residues_bad hsan pa fa la pb fb lb m fr w h
end Go.Proofs.YtlhgpeelenelbaaDoor
