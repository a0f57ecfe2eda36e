/- Two sets in memory; contracts of checkBoth and season. -/
import Derived.Test.YtcdodfehnkgjdaaGreatDoorHB
import Derived.Test.YtcdodfehnkgjdaaGreatDoorE4
import Derived.Test.YtcdodfehnkgjdaaGreatDoorFF
import Derived.Test.YtcdodfehnkgjdaaGreatDoorJK
import Derived.Test.YtcdodfehnkgjdaaGreatDoorMM
import Derived.Test.YtcdodfehnkgjdaaGreatDoorE7
import Derived.Maps.AppendAt
namespace Go.Proofs.YtcdodfehnkgjdaaGreatDoor
open Go.RowKit

theorem check_rm {v : Value} {ts : List T3} {ss : List S2} {c : Int} {w : World} (h : RM w.heap.size v ts ss w) (hc : CheckIs ts ss c) :
    Calls Tryz.prog 12 #[v] w fun e w' => e = .returned (.int .i64 c) ∧ Below w.heap.size w w' := by
  obtain ⟨a, b, e, a', b', e', rfl, x1, x2⟩ := h
  exact check_any _ _ ts ss c w x1 x2 hc
theorem rcheck_rm {v : Value} {ts : List T3} {ss : List S2} {c : Int} {w : World} (h : RM w.heap.size v ts ss w) (hc : CheckIs ts ss c) :
    Calls Tryz.prog 32 #[v] w fun e w' => e = .returned (.int .i64 c) ∧ Below w.heap.size w w' := by
  obtain ⟨a, b, e, a', b', e', rfl, x1, x2⟩ := h
  exact rcheck_any _ _ ts ss c w x1 x2 hc

/-- The two sets that a function holds in its first blocks. -/
abbrev N2 (w : World) (v0 v1 u0 u1 : Value) (W : World) : Prop :=
  W.cell? ⟨w.heap.size, 0, none⟩ = some v0 ∧ W.cell? ⟨w.heap.size, 1, none⟩ = some v1 ∧ W.cell? ⟨w.heap.size + 1, 0, none⟩ = some u0 ∧ W.cell? ⟨w.heap.size + 1, 1, none⟩ = some u1 ∧ w.heap.size + 1 < W.heap.size ∧ Below w.heap.size w W
def N2d (w : World) (v0 v1 u0 u1 : Value) (W : World) : Prop := N2 w v0 v1 u0 u1 W
section
variable {w W W' : World} {v0 v1 u0 u1 : Value}
theorem N2d.out (h : N2d w v0 v1 u0 u1 W) : N2 w v0 v1 u0 u1 W := h
theorem N2d.below (h : N2d w v0 v1 u0 u1 W) (hb : Below W.heap.size W W') : N2d w v0 v1 u0 u1 W' := by
  obtain ⟨a0, a1, b0, b1, l1, hB⟩ := h.out
  have hs := hb.size
  exact ⟨(hb.cell (p := ⟨w.heap.size, 0, none⟩) (by show w.heap.size < _; omega)).trans a0, (hb.cell (p := ⟨w.heap.size, 1, none⟩) (by show w.heap.size < _; omega)).trans a1, (hb.cell (p := ⟨w.heap.size + 1, 0, none⟩) l1).trans b0, (hb.cell (p := ⟨w.heap.size + 1, 1, none⟩) l1).trans b1, by omega, hB.trans (hb.mono (by omega))⟩
theorem N2d.drew (h : N2d w v0 v1 u0 u1 W) : N2d w v0 v1 u0 u1 W.drew := h.below (Below.refl _ _).drew
theorem N2d.alloc (h : N2d w v0 v1 u0 u1 W) (o : Obj) : N2d w v0 v1 u0 u1 (W.alloc o) := h.below ((Below.refl _ _).alloc (Nat.le_refl _) o)
theorem N2d.new (t t' : TypeId) : N2d w v0 v1 u0 u1 ((w.alloc (.cells #[v0, v1] t)).alloc (.cells #[u0, u1] t')) :=
  ⟨by simp [go_sem], by simp [go_sem], by simp [go_sem], by simp [go_sem], by simp, ((Below.refl _ _).alloc (Nat.le_refl _) _).alloc (by simp) _⟩
theorem N2d.bel (h : N2d w v0 v1 u0 u1 W) : Below w.heap.size w W := h.out.2.2.2.2.2
theorem N2d.siz (h : N2d w v0 v1 u0 u1 W) : w.heap.size ≤ W.heap.size := h.bel.size
end

/-- The error of two sets. -/
def BothIs (c c' d : Int) : Prop := (c ≠ 0 ∧ d = c) ∨ (c = 0 ∧ d = c')
theorem BothIs.exists_ (c c' : Int) : ∃ d, BothIs c c' d := by
  by_cases h : c = 0
  · exact ⟨_, .inr ⟨h, rfl⟩⟩
  · exact ⟨_, .inl ⟨h, rfl⟩⟩

set_option maxHeartbeats 1000000 in
set_option maxRecDepth 100000 in
theorem checkBoth_any (va vb : Value) (ts ts2 : List T3) (ss ss2 : List S2) (c c' d : Int) (w : World) (h : RM w.heap.size va ts ss w) (h' : RM w.heap.size vb ts2 ss2 w) (hc : CheckIs ts ss c) (hc' : CheckIs ts2 ss2 c') (hd : BothIs c c' d) :
    Calls Tryz.prog 27 #[va, vb] w fun e w' => e = .returned (.int .i64 d) ∧ Below w.heap.size w w' := by
  obtain ⟨A, k, ca, A', k', ca', rfl, -⟩ := id h
  obtain ⟨B, l, cb, B', l', cb', rfl, -⟩ := id h'
  have C := Lib.hid fun W (S : N2d w (.slice A k ca) (.slice A' k' ca') (.slice B l cb) (.slice B' l' cb') W) => check_rm (h.up S.siz S.bel) hc
  have C' := Lib.hid fun W (S : N2d w (.slice A k ca) (.slice A' k' ca') (.slice B l cb) (.slice B' l' cb') W) => check_rm (h'.up S.siz S.bel) hc'
  have S0 := Lib.hid (N2d.new (w := w) (v0 := .slice A k ca) (v1 := .slice A' k' ca') (u0 := .slice B l cb) (u1 := .slice B' l' cb') 25 25)
  clear h h' hc hc'
  rcases hd with ⟨h0, rfl⟩ | ⟨rfl, rfl⟩
  · go_enter Tryz.func27, Tryz.ntmps27
    go_wp2_with fail
    refine (C.out _ S0.out).mono ?_
    rintro e w1 ⟨rfl, h1⟩
    have S := Lib.hid (S0.out.below h1)
    clear h1 S0
    go_wp2_with fail
    go_ret
    exact ⟨rfl, S.out.bel⟩
  · go_enter Tryz.func27, Tryz.ntmps27
    go_wp2_with fail
    refine (C.out _ S0.out).mono ?_
    rintro e w1 ⟨rfl, h1⟩
    have S := Lib.hid (S0.out.below h1)
    clear h1 S0
    obtain ⟨t0, t1, t2, t3, t4, _⟩ := S.out.out
    go_wp2_with fail
    refine (C'.out _ S.out).mono ?_
    rintro e w2 ⟨rfl, h2⟩
    have S := Lib.hid (S.out.below h2)
    clear h2 t0 t1 t2 t3 t4
    go_wp2_with fail
    go_ret
    exact ⟨rfl, S.out.bel⟩

end Go.Proofs.YtcdodfehnkgjdaaGreatDoor

/- Contracts of around and Period where there is an error, and both together. -/
namespace Go.Proofs.YtcdodfehnkgjdaaGreatDoor
open Go.RowKit

set_option maxHeartbeats 2000000 in
set_option maxRecDepth 100000 in
theorem around_err (v : Value) (ts : List T3) (ss : List S2) (c d : Int) (w : World) (h : RM w.heap.size v ts ss w) (hc : CheckIs ts ss c) (hd : (c ≠ 0 ∧ d = c) ∨ (c = 0 ∧ (ss ≠ [] ∨ ts = []) ∧ d = 1)) :
    Calls Tryz.prog 56 #[v] w fun e w' => e = .returned (.tuple #[.slice none 0 0, .int .i64 d]) ∧ Below w.heap.size w w' := by
  obtain ⟨A, m, ca, A', m', ca', rfl, r1, r2⟩ := id h
  obtain ⟨A1, c1, e1, n1, -⟩ := r1
  obtain ⟨rfl, rfl, rfl⟩ : A = A1 ∧ m = ts.length ∧ ca = c1 := by simpa using e1
  obtain ⟨A2, c2, e2, n2, -⟩ := r2
  obtain ⟨rfl, rfl, rfl⟩ : A' = A2 ∧ m' = ss.length ∧ ca' = c2 := by simpa using e2
  have C := Lib.hid fun W (S : NSd w (.slice A ts.length ca) (.slice A' ss.length ca') W) => check_rm (h.up S.siz S.bel) hc
  have S0 := Lib.hid (NSd.new (w := w) (v0 := .slice A ts.length ca) (v1 := .slice A' ss.length ca') 25)
  clear h hc e1 e2
  rcases hd with ⟨h0, rfl⟩ | ⟨rfl, h1, rfl⟩
  · have hb0 : (d != 0) = true := by rw [bne_iff_ne]; exact h0
    clear h0
    go_enter Tryz.func56, Tryz.ntmps56
    go_wp2_with fail
    refine (C.out _ S0.out).mono ?_
    rintro e w1 ⟨rfl, h1⟩
    have S := Lib.hid (S0.out.below h1)
    clear h1 S0
    go_wp2_with fail
    go_ret2
    exact ⟨rfl, S.out.bel⟩
  · by_cases hs : ss = []
    · have ht : ts = [] := by rcases h1 with h | h; exact absurd hs h; exact h
      subst hs ht
      clear h1
      go_enter Tryz.func56, Tryz.ntmps56
      go_wp2_with fail
      refine (C.out _ S0.out).mono ?_
      rintro e w1 ⟨rfl, h1⟩
      have S := Lib.hid (S0.out.below h1)
      clear h1 S0
      obtain ⟨t0, t1, t2, _⟩ := S.out.out
      go_wp2_with fail
      go_ret2
      exact ⟨rfl, S.out.bel⟩
    · obtain ⟨x0, sl, rfl⟩ : ∃ x0 sl, ss = x0 :: sl := by
        cases ss with
        | nil => exact absurd rfl hs
        | cons x l => exact ⟨x, l, rfl⟩
      have k1 : decide ((0 : Int) < (((x0 :: sl).length : Nat) : Int)) = true := decide_eq_true (by simp <;> omega)
      obtain ⟨ns, hns⟩ : ∃ ns, (x0 :: sl).length = ns := ⟨_, rfl⟩
      rw [hns] at C S0 k1 ⊢
      have k2 : (0 : Int) < (ns : Int) := by simpa using k1
      have k3 : 0 < ns := by omega
      clear h1 hs hns
      go_enter Tryz.func56, Tryz.ntmps56
      go_wp2_with fail
      refine (C.out _ S0.out).mono ?_
      rintro e w1 ⟨rfl, h1⟩
      have S := Lib.hid (S0.out.below h1)
      clear h1 S0
      obtain ⟨t0, t1, t2, _⟩ := S.out.out
      go_wp2_with fail
      go_ret2
      exact ⟨rfl, S.out.bel⟩

set_option maxHeartbeats 2000000 in
theorem period_err (v : Value) (ts : List T3) (ss : List S2) (c d : Int) (w : World) (h : RM w.heap.size v ts ss w) (hc : CheckIs ts ss c) (hd : (c ≠ 0 ∧ d = c) ∨ (c = 0 ∧ (ss ≠ [] ∨ ts = []) ∧ d = 1)) :
    Calls Tryz.prog 22 #[v] w fun e w' => e = .returned (.tuple #[.int .i64 0, .int .i64 d]) ∧ Below w.heap.size w w' := by
  obtain ⟨A, m, ca, A', m', ca', rfl, -, -⟩ := id h
  have C := Lib.hid fun W (S : NSd w (.slice A m ca) (.slice A' m' ca') W) => around_err _ ts ss c d W (h.up S.siz S.bel) hc hd
  have S0 := Lib.hid (NSd.new (w := w) (v0 := .slice A m ca) (v1 := .slice A' m' ca') 25)
  clear h hc hd
  go_enter Tryz.func22, Tryz.ntmps22
  go_wp2_with fail
  refine (C.out _ S0.out).mono ?_
  rintro e w1 ⟨rfl, h1⟩
  have S := Lib.hid (S0.out.below h1)
  clear h1 S0
  go_wp2_with fail
  go_ret2
  exact ⟨rfl, S.out.bel⟩

/-- What Period returns: a number and an error. -/
def PerIs (ts : List T3) (ss : List S2) (c r d : Int) : Prop :=
  (((c ≠ 0 ∧ d = c) ∨ (c = 0 ∧ (ss ≠ [] ∨ ts = []) ∧ d = 1)) ∧ r = 0) ∨
  (c = 0 ∧ ss = [] ∧ ts ≠ [] ∧ Over ts ∧ r = 0 ∧ d = 2) ∨
  (c = 0 ∧ ss = [] ∧ ts ≠ [] ∧ ¬ Over ts ∧ 1 ≤ lcmS ts ∧ lcmS ts ≤ 40320 ∧ d = 0 ∧ ∃ p : Nat, r = p ∧ 1 ≤ p ∧ p ≤ (roundOf ts).length ∧ RepB (roundOf ts) p ∧ ∀ q, 1 ≤ q → q < p → ¬ RepB (roundOf ts) q)
theorem period_any (v : Value) (ts : List T3) (ss : List S2) (c : Int) (w : World) (h : RM w.heap.size v ts ss w) (hc : CheckIs ts ss c) :
    Calls Tryz.prog 22 #[v] w fun e w' => ∃ r d, e = .returned (.tuple #[.int .i64 r, .int .i64 d]) ∧ PerIs ts ss c r d ∧ Below w.heap.size w w' := by
  by_cases h0 : c = 0
  · subst h0
    by_cases h1 : ss ≠ [] ∨ ts = []
    · refine (period_err v ts ss 0 1 w h hc (.inr ⟨rfl, h1, rfl⟩)).mono ?_
      rintro e w' ⟨rfl, hb⟩
      exact ⟨0, 1, rfl, .inl ⟨.inr ⟨rfl, h1, rfl⟩, rfl⟩, hb⟩
    · obtain ⟨hs, ht⟩ : ss = [] ∧ ts ≠ [] := ⟨Classical.byContradiction fun h => h1 (.inl h), fun h => h1 (.inr h)⟩
      subst hs
      refine (period_main v ts w h hc (List.length_pos_iff.2 ht)).mono ?_
      rintro e w' ⟨⟨ho, rfl⟩ | ⟨ho, l1, l2, p, p1, p2, p3, p4, rfl⟩, hb⟩
      · exact ⟨0, 2, rfl, .inr (.inl ⟨rfl, rfl, ht, ho, rfl, rfl⟩), hb⟩
      · exact ⟨p, 0, rfl, .inr (.inr ⟨rfl, rfl, ht, ho, l1, l2, rfl, p, rfl, p1, p2, p3, p4⟩), hb⟩
  · refine (period_err v ts ss c c w h hc (.inl ⟨h0, rfl⟩)).mono ?_
    rintro e w' ⟨rfl, hb⟩
    exact ⟨0, c, rfl, .inl ⟨.inl ⟨h0, rfl⟩, rfl⟩, hb⟩
end Go.Proofs.YtcdodfehnkgjdaaGreatDoor

/- Contracts of the law's multiple and soon, and of the specification's all: the least common multiple of all periods. -/
namespace Go.Proofs.YtcdodfehnkgjdaaGreatDoor
open Go.RowKit

/-- All prefixes have a common multiple that is small enough, up to k. -/
def LcmTo (ts : List T3) (k : Nat) : Prop := ∀ j, j ≤ k → lcmS (ts.take j) ≤ 40320
theorem lcmTo_zero (ts : List T3) : LcmTo ts 0 := fun j hj => by
  obtain rfl : j = 0 := by omega
  exact (by decide : (1 : Int) ≤ 40320)
theorem not_over {ts : List T3} (h : LcmTo ts ts.length) : ¬ Over ts := fun ⟨k, hk, ho⟩ => by have := h k hk; omega
theorem lcm_step {ts : List T3} {k : Nat} {p f l : Int} (h : ts[k]? = some (p, f, l)) : lcmS (ts.take (k + 1)) = lcmF (lcmS (ts.take k)) p := by
  obtain ⟨q1, q2⟩ := List.getElem?_eq_some_iff.1 h
  rw [List.take_succ_eq_append_getElem q1, lcmS_snoc, q2]

/-- What the specification's all says. -/
def AllIs (ts : List T3) (r : Int) : Prop := (Over ts ∧ r = 0) ∨ (¬ Over ts ∧ r = lcmS ts)
end Go.Proofs.YtcdodfehnkgjdaaGreatDoor

/- Plain mathematics: with which period a set of turns comes again; the fewest turns. -/
namespace Go.Proofs.YtcdodfehnkgjdaaGreatDoor

theorem lcmS_dvd : ∀ (n : Nat) (l : List T3), l.length = n → (∀ t ∈ l, 1 ≤ t.1) → ∀ t ∈ l, t.1 ∣ lcmS l
  | 0, l, hn, _, t, ht => by
    obtain rfl : l = [] := List.eq_nil_of_length_eq_zero hn
    cases ht
  | n + 1, l, hn, h, t, ht => by
    rcases list_cases l with rfl | ⟨i, x, rfl⟩
    · cases ht
    · rw [lcmS_snoc]
      rcases List.mem_append.1 ht with ht | ht
      · exact Int.dvd_trans (lcmS_dvd n i (by simp at hn; omega) (fun y hy => h y (List.mem_append.2 (.inl hy))) t ht) (lcmF_dvd_left _ _)
      · simp at ht
        subst ht
        exact lcmF_dvd_right _ _
/-- Where all comes again. -/
theorem set_again {ts : List T3} (hok : AllOk ts []) (n : Int) (q : Int) : setB (lotsOf ts []) (n + lcmS ts * q) = setB (lotsOf ts []) n := by
  rw [Bool.eq_iff_iff, setB_iff, setB_iff]
  have key : ∀ x ∈ lotsOf ts [], x.has (n + lcmS ts * q) ↔ x.has n := by
    intro x hx
    simp [lotsOf] at hx
    obtain ⟨p, f, l, ht, rfl⟩ := hx
    have hp := (hok.1 _ ht).1
    obtain ⟨d, hd⟩ := lcmS_dvd _ ts rfl (fun t h => (hok.1 t h).1) _ ht
    show (n + lcmS ts * q - f) % p < l ↔ (n - f) % p < l
    simp only at hd
    rw [hd, show n + p * d * q - f = n - f + p * (d * q) by rw [Int.mul_assoc]; omega, Int.add_mul_emod_self_left]
  constructor
  · rintro ⟨x, hx, h⟩
    exact ⟨x, hx, (key x hx).1 h⟩
  · rintro ⟨x, hx, h⟩
    exact ⟨x, hx, (key x hx).2 h⟩

/-- The set comes again after p. -/
def PerH (H : Int → Bool) (p : Int) : Prop := ∀ n, H (n + p) = H n
theorem PerH.mul {H : Int → Bool} {p : Int} (h : PerH H p) (n : Int) : ∀ q : Nat, H (n + p * q) = H n
  | 0 => by rw [show n + p * ((0 : Nat) : Int) = n by simp]
  | q + 1 => by
    rw [show n + p * ((q + 1 : Nat) : Int) = n + p * (q : Int) + p by rw [Int.natCast_add, Int.mul_add]; omega, h, PerH.mul h n q]
theorem PerH.mulZ {H : Int → Bool} {p : Int} (h : PerH H p) (n q : Int) : H (n + p * q) = H n := by
  rcases Int.le_total 0 q with c | c
  · have := h.mul n q.toNat
    rwa [show ((q.toNat : Nat) : Int) = q by omega] at this
  · have := h.mul (n + p * q) (-q).toNat
    rw [show (((-q).toNat : Nat) : Int) = -q by omega, show n + p * q + p * -q = n by rw [Int.mul_neg]; omega] at this
    exact this.symm
theorem PerH.mod {H : Int → Bool} {p : Int} (h : PerH H p) (n : Int) : H (n % p) = H n := by
  have := h.mulZ (n % p) (n / p)
  rw [Int.emod_add_mul_ediv] at this
  exact this.symm

theorem repB_iff {H : Int → Bool} {L p : Nat} (hL : PerH H L) (hp : 1 ≤ p) (hpL : p ≤ L) : RepB (marks L H) p ↔ (L % p = 0 ∧ PerH H p) := by
  unfold RepB
  rw [marks_len]
  constructor
  · rintro ⟨hm, hd⟩
    refine ⟨hm, ?_⟩
    have step : ∀ i : Nat, i + p < L → H ((i + p : Nat) : Int) = H (i : Int) := fun i hi => by
      have h1 : ((marks L H).drop p)[i]? = ((marks L H).take (L - p))[i]? := by rw [hd]
      rw [List.getElem?_drop, List.getElem?_take_of_lt (by omega), marks_at L H (p + i) (by omega), marks_at L H i (by omega)] at h1
      have := Option.some.inj h1
      rw [show i + p = p + i by omega]
      exact this
    have run : ∀ (t i : Nat), i + p * t < L → H ((i + p * t : Nat) : Int) = H (i : Int) := by
      intro t
      induction t with
      | zero => intro i _; simp
      | succ t ih =>
        intro i hi
        have e : i + p * (t + 1) = i + p * t + p := by rw [Nat.mul_add]; omega
        rw [e] at hi ⊢
        rw [step _ hi, ih i (by omega)]
    have low : ∀ i : Nat, i < L → H ((i + p : Nat) : Int) = H (i : Int) := fun i hi => by
      by_cases c : i + p < L
      · exact step i c
      · obtain ⟨t, ht⟩ : ∃ t, L = p * t := ⟨L / p, by have := Nat.div_add_mod L p; omega⟩
        have ht1 : 1 ≤ t := by
          rcases t with _ | t
          · omega
          · omega
        obtain ⟨s, rfl⟩ : ∃ s, t = s + 1 := ⟨t - 1, by omega⟩
        have e : p * (s + 1) = p * s + p := by rw [Nat.mul_add]; omega
        have h1 : H ((i + p : Nat) : Int) = H ((i + p - L : Nat) : Int) := by
          rw [← hL ((i + p - L : Nat) : Int)]
          congr 1
          omega
        have h2 := run s (i + p - L) (by omega)
        rw [h1, ← h2]
        congr 1
        omega
    intro n
    have hLp : (0 : Int) < L := by omega
    have e0 : 0 ≤ n % L := Int.emod_nonneg _ (by omega)
    have e1 : n % L < L := Int.emod_lt_of_pos _ hLp
    have h1 := low (n % L).toNat (by omega)
    rw [show (((n % L).toNat + p : Nat) : Int) = n % L + p by omega, show (((n % L).toNat : Nat) : Int) = n % L by omega] at h1
    have h2 := hL.mulZ (n % L + p) (n / L)
    have h3 := hL.mulZ (n % L) (n / L)
    have e := Int.emod_add_mul_ediv n L
    rw [show n % L + p + (L : Int) * (n / L) = n + p by omega] at h2
    rw [e] at h3
    rw [h2, h1, h3]
  · rintro ⟨hm, hp'⟩
    refine ⟨hm, ?_⟩
    apply List.ext_getElem?
    intro i
    rw [List.getElem?_drop]
    by_cases c : i < L - p
    · rw [List.getElem?_take_of_lt c, marks_at L H (p + i) (by omega), marks_at L H i (by omega)]
      have := hp' (i : Int)
      rw [show (i : Int) + p = ((p + i : Nat) : Int) by omega] at this
      rw [this]
    · rw [List.getElem?_eq_none (by rw [marks_len]; omega), List.getElem?_eq_none (by rw [List.length_take, marks_len]; omega)]
/-- To come again is to be asked in one round alone. -/
theorem perH_iff {H : Int → Bool} {L : Nat} (h1 : 1 ≤ L) (hL : PerH H L) (p : Int) : PerH H p ↔ ∀ n : Int, 0 ≤ n → n < L → H n = H (n + p) := by
  constructor
  · exact fun h n _ _ => (h n).symm
  · intro h n
    have e0 : 0 ≤ n % L := Int.emod_nonneg _ (by omega)
    have e1 : n % L < L := Int.emod_lt_of_pos _ (by omega)
    have h2 := hL.mulZ (n % L + p) (n / L)
    have h3 := hL.mulZ (n % L) (n / L)
    have e := Int.emod_add_mul_ediv n L
    rw [show n % L + p + (L : Int) * (n / L) = n + p by omega] at h2
    rw [e] at h3
    rw [h2, h3, h _ e0 e1]
end Go.Proofs.YtcdodfehnkgjdaaGreatDoor

/- Contracts of the specification's again and Period. -/
namespace Go.Proofs.YtcdodfehnkgjdaaGreatDoor
open Go.RowKit

/-- What again returns. -/
def AgainPost (H : Int → Bool) (p l : Int) (w : World) (e : Ending) (w' : World) : Prop := ∃ b, e = .returned (.bool b) ∧ (b = true ↔ ∀ n : Int, 0 ≤ n → n < l → H n = H (n + p)) ∧ Below w.heap.size w w'
theorem PerIs.unique {ts : List T3} {ss : List S2} {c r d r' d' : Int} (h : PerIs ts ss c r d) (h' : PerIs ts ss c r' d') : r = r' ∧ d = d' := by
  rcases h with ⟨⟨a, b⟩ | ⟨a, b, e⟩, f⟩ | ⟨a, b, e, f, g, i⟩ | ⟨a, b, e, f, _, _, g, p, i, j, k, l, m⟩ <;> rcases h' with ⟨⟨a', b'⟩ | ⟨a', b', e'⟩, f'⟩ | ⟨a', b', e', f', g', i'⟩ | ⟨a', b', e', f', _, _, g', p', i', j', k', l', m'⟩
  all_goals first
    | exact ⟨by omega, by omega⟩
    | exact absurd a a'
    | exact absurd a' a
    | exact absurd f f'
    | exact absurd f' f
    | (rcases b with b | b <;> first | exact absurd b' b | exact absurd b e')
    | (rcases b' with b' | b' <;> first | exact absurd b b' | exact absurd b' e)
    | (refine ⟨?_, by omega⟩
       rcases Nat.lt_trichotomy p p' with c | c | c
       · exact absurd l (m' p j c)
       · omega
       · exact absurd l' (m p' j' c))

section
variable {w W W' : World} {v0 v1 : Value}
end

def FoundPost (ts : List T3) (ss : List S2) (c : Int) (w : World) (e : Ending) (w' : World) : Prop := ∃ r d, e = .returned (.agg #[.int .i64 r, .int .i64 d]) ∧ PerIs ts ss c r d ∧ Below w.heap.size w w'

end Go.Proofs.YtcdodfehnkgjdaaGreatDoor

/- Contract of SameSet at two equal sets; the fewest turns, and how a list of turns that grows lies in memory. -/
namespace Go.Proofs.YtcdodfehnkgjdaaGreatDoor
open Go.RowKit

set_option maxHeartbeats 4000000 in
set_option maxRecDepth 100000 in
theorem sameSet_eq (va vb : Value) (ts : List T3) (ss : List S2) (w : World) (ha : RM w.heap.size va ts ss w) (hb : RM w.heap.size vb ts ss w) :
    Calls Tryz.prog 10 #[va, vb] w fun e w' => e = .returned (.bool true) ∧ Below w.heap.size w w' := by
  obtain ⟨A, m, ca, A', m', ca', rfl, r1, r2⟩ := ha
  obtain ⟨B, k, cb, B', k', cb', rfl, q1, q2⟩ := hb
  have CS := Lib.hid fun W (S : N2d w (.slice A m ca) (.slice A' m' ca') (.slice B k cb) (.slice B' k' cb') W) => sameSpans_any _ _ ss ss W (r2.up S.siz S.bel) (q2.up S.siz S.bel)
  rw [decide_eq_true rfl] at CS
  obtain ⟨A1, c1, e1, n1, hx⟩ := r1
  obtain ⟨rfl, rfl, rfl⟩ : A = A1 ∧ m = ts.length ∧ ca = c1 := by simpa using e1
  obtain ⟨B1, d1, e2, n2, hy⟩ := q1
  obtain ⟨rfl, rfl, rfl⟩ : B = B1 ∧ k = ts.length ∧ cb = d1 := by simpa using e2
  have HX := Lib.hid hx
  have HY := Lib.hid hy
  have S0 := Lib.hid (N2d.new (w := w) (v0 := .slice A ts.length ca) (v1 := .slice A' m' ca') (u0 := .slice B ts.length cb) (u1 := .slice B' k' cb') 25 25)
  have hne : ((ts.length : Int) != (ts.length : Int)) = false := by simp
  clear r2 q2 hx hy e1 e2
  go_enter Tryz.func10, Tryz.ntmps10
  go_wp2_with fail
  refine (CS.out _ S0.out).mono ?_
  rintro e w1 ⟨rfl, h1⟩
  have S := Lib.hid (S0.out.below h1)
  clear h1 S0
  obtain ⟨t0, t1, t2, t3, t4, _⟩ := S.out.out
  go_wp2_with fail
  clear t0 t1 t2 t3 t4
  go_loopw [6] (fun u wr => ∃ k : Nat, u = .int .i64 k ∧ k ≤ ts.length ∧ N2d w (.slice A ts.length ca) (.slice A' m' ca') (.slice B ts.length cb) (.slice B' k' cb') wr) (fun u _ => ts.length - (intOf u).toNat)
  case atStart => exact ⟨0, rfl, by omega, S.out⟩
  case round =>
    obtain ⟨k, rfl, hk, hS⟩ := hrel
    have S2 := Lib.hid hS
    obtain ⟨t0, t1, t2, t3, t4, _⟩ := hS.out
    clear hS
    by_cases hkn : k < ts.length
    · obtain ⟨b1, o1, rfl, l1, x1⟩ := HX.out (by omega)
      obtain ⟨b2, o2, rfl, l2, x2⟩ := HY.out (by omega)
      obtain ⟨⟨p, f, l⟩, ht⟩ : ∃ t, ts[k]? = some t := ⟨_, List.getElem?_eq_getElem hkn⟩
      obtain ⟨a0, a1, a2⟩ := x1 k p f l ht
      obtain ⟨b0, b1', b2'⟩ := x2 k p f l ht
      have c0 := (S2.out.bel.cell (p := ⟨b1, o1 + k * 3, none⟩) l1).trans a0
      have c1 := (S2.out.bel.cell (p := ⟨b1, o1 + k * 3 + 1, none⟩) l1).trans a1
      have c2 := (S2.out.bel.cell (p := ⟨b1, o1 + k * 3 + 2, none⟩) l1).trans a2
      have d0 := (S2.out.bel.cell (p := ⟨b2, o2 + k * 3, none⟩) l2).trans b0
      have d1 := (S2.out.bel.cell (p := ⟨b2, o2 + k * 3 + 1, none⟩) l2).trans b1'
      have d2 := (S2.out.bel.cell (p := ⟨b2, o2 + k * 3 + 2, none⟩) l2).trans b2'
      have hk0 : (k : Int) < (ts.length : Int) := by omega
      clear x1 x2 a0 a1 a2 b0 b1' b2' ht
      go_wp2_with fail
      go_quiet (fail)
      go_wp2_with fail
      go_roundw
      case rel => exact ⟨k + 1, by go_num, by omega, S2.out.below (below_drewN (Below.refl _ _) _)⟩
      case measure => show ts.length - ((k : Int) + 1).toNat < ts.length - (k : Int).toNat; omega
    · have hk0 : (ts.length : Int) ≤ (k : Int) := by omega
      go_wp2_with fail
      go_ret
      exact ⟨rfl, S2.out.bel⟩

def rowT3 (l : List T3) : List Value := l.flatMap fun x => [.int .i64 x.1, .int .i64 x.2.1, .int .i64 x.2.2]
theorem rowT3_len (l : List T3) : (rowT3 l).length = l.length * 3 := by
  induction l with
  | nil => rfl
  | cons x l ih =>
    have : rowT3 (x :: l) = [.int .i64 x.1, .int .i64 x.2.1, .int .i64 x.2.2] ++ rowT3 l := rfl
    rw [this, List.length_append, ih]; simp; omega
theorem rowT3_snoc (l : List T3) (x : T3) : rowT3 (l ++ [x]) = rowT3 l ++ [.int .i64 x.1, .int .i64 x.2.1, .int .i64 x.2.2] := by simp [rowT3, List.flatMap_append]
theorem rowT3_at : ∀ (l : List T3) (k : Nat) (p f m : Int), l[k]? = some (p, f, m) → (rowT3 l)[k * 3]? = some (.int .i64 p) ∧ (rowT3 l)[k * 3 + 1]? = some (.int .i64 f) ∧ (rowT3 l)[k * 3 + 2]? = some (.int .i64 m)
  | [], k, p, f, m, h => by cases h
  | x :: l, 0, p, f, m, h => by simp at h; subst h; exact ⟨rfl, rfl, rfl⟩
  | x :: l, k + 1, p, f, m, h => by
    have ih := rowT3_at l k p f m (by simpa using h)
    have e : rowT3 (x :: l) = .int .i64 x.1 :: .int .i64 x.2.1 :: .int .i64 x.2.2 :: rowT3 l := rfl
    rw [e, show (k + 1) * 3 = k * 3 + 3 by omega]
    exact ih
theorem infoTurn : (Tryz.prog.info? 42).map (fun i => (i.zero, i.size, i.bytes)) = some (some (.agg #[.int .i64 0, .int .i64 0, .int .i64 0]), 3, 24) := by kernel_rfl
/-- A list of turns in a row of its own. -/
def OwnT (base : Nat) (v : Value) (l : List T3) (W : World) : Prop := W.ownsRow base 42 3 v l.length (rowT3 l)
theorem OwnT.form {base : Nat} {v : Value} {l : List T3} {W : World} (h : OwnT base v l W) : ∃ A c, v = .slice A l.length c ∧ (0 < l.length → ∃ g, A = some ⟨g, 0, none⟩) := by
  rcases h.2 with ⟨rfl, h0⟩ | ⟨g, cap, cur, rfl, _⟩
  · exact ⟨none, 0, by rw [h0], fun h => by omega⟩
  · exact ⟨_, _, rfl, fun _ => ⟨_, rfl⟩⟩
theorem OwnT.grown {base : Nat} {v : Value} {l : List T3} {W W' : World} {bs : List Nat} (h : OwnT base v l W) (hg : GrownL bs W W') (hn : ∀ g, v.ownBlock = some g → g ∉ bs) : OwnT base v l W' := ownsRow_grownL h hg hn
theorem OwnT.lt {base : Nat} {v : Value} {l : List T3} {W : World} (h : OwnT base v l W) : ∀ g, v.ownBlock = some g → base ≤ g ∧ g < W.heap.size := World.ownsRow.lt h
theorem OwnT.rt {base : Nat} {v : Value} {l : List T3} {W : World} (h : OwnT base v l W) (hl : l.length ≤ 1000000000000) : RT W.heap.size v l W := by
  rcases h.2 with ⟨rfl, h0⟩ | ⟨g, cap, cur, rfl, hb, hgb, r⟩
  · exact ⟨none, 0, by rw [h0], hl, fun hp => by omega⟩
  · refine ⟨_, cap, rfl, hl, fun hp => ⟨g, 0, rfl, (Array.getElem?_eq_some_iff.1 hgb).1, fun k p f m hk => ?_⟩⟩
    have hkl := (List.getElem?_eq_some_iff.1 hk).1
    obtain ⟨c1, c2, c3⟩ := rowT3_at l k p f m hk
    rw [Nat.zero_add]
    exact ⟨(World.ownsRow.cellAt h (k * 3) (by omega)).trans c1, (World.ownsRow.cellAt h (k * 3 + 1) (by omega)).trans c2, (World.ownsRow.cellAt h (k * 3 + 2) (by omega)).trans c3⟩

/-- How long a run is, from t on: at most f more. -/
def longG (H : Int → Bool) (n : Int) : Nat → Nat → Nat
  | 0, t => t
  | f + 1, t => if H (n + t) = true then longG H n f (t + 1) else t
def longF (H : Int → Bool) (p : Nat) (n : Int) : Nat := longG H n (p - 1) 1
/-- The fewest turns, up to k. -/
def fewU (H : Int → Bool) (p : Nat) : Nat → List T3
  | 0 => []
  | k + 1 => if H k = true ∧ (p = 1 ∨ H ((k : Int) + p - 1) = false) then fewU H p k ++ [((p : Int), (k : Int), (longF H p k : Int))] else fewU H p k
theorem fewU_len (H : Int → Bool) (p : Nat) : ∀ k : Nat, (fewU H p k).length ≤ k
  | 0 => Nat.le_refl _
  | k + 1 => by
    have ih := fewU_len H p k
    unfold fewU
    split
    · simp; omega
    · omega
theorem longG_stop {H : Int → Bool} {n : Int} {f t : Nat} (h : H (n + t) = false) : longG H n f t = t := by
  cases f with
  | zero => rfl
  | succ f => simp [longG, h]
theorem longG_go {H : Int → Bool} {n : Int} {p t : Nat} (ht : t < p) (h : H (n + t) = true) : longG H n (p - t) t = longG H n (p - (t + 1)) (t + 1) := by
  obtain ⟨f, hf⟩ : ∃ f, p - t = f + 1 := ⟨p - t - 1, by omega⟩
  rw [hf, show p - (t + 1) = f by omega]
  simp [longG, h]
/-- What both functions say. -/
def FewIs (ts : List T3) (ss : List S2) (c : Int) (l : List T3) (d : Int) : Prop :=
  ∃ r e, PerIs ts ss c r e ∧ ((e ≠ 0 ∧ l = [] ∧ d = e) ∨ (e = 0 ∧ (fewU (setB (lotsOf ts ss)) r.toNat r.toNat).length ≤ 24 ∧ l = fewU (setB (lotsOf ts ss)) r.toNat r.toNat ∧ d = 0) ∨ (e = 0 ∧ 24 < (fewU (setB (lotsOf ts ss)) r.toNat r.toNat).length ∧ l = [] ∧ d = 2))
theorem FewIs.unique {ts : List T3} {ss : List S2} {c : Int} {l l' : List T3} {d d' : Int} (h : FewIs ts ss c l d) (h' : FewIs ts ss c l' d') : l = l' ∧ d = d' := by
  obtain ⟨r, e, hp, h⟩ := h
  obtain ⟨r', e', hp', h'⟩ := h'
  obtain ⟨rfl, rfl⟩ := hp.unique hp'
  rcases h with ⟨a, rfl, rfl⟩ | ⟨a, b, rfl, rfl⟩ | ⟨a, b, rfl, rfl⟩ <;> rcases h' with ⟨x, rfl, rfl⟩ | ⟨x, y, rfl, rfl⟩ | ⟨x, y, rfl, rfl⟩ <;> first | exact ⟨rfl, rfl⟩ | omega
end Go.Proofs.YtcdodfehnkgjdaaGreatDoor

/- Contract of Fewest. -/
namespace Go.Proofs.YtcdodfehnkgjdaaGreatDoor
open Go.RowKit

/-- The marks of a round, in memory. -/
def InC (g p : Nat) (H : Int → Bool) (W : World) : Prop := ∀ i : Nat, i < p → W.cell? ⟨g, i, none⟩ = some (.bool (H i))
theorem InC.grown {g p : Nat} {H : Int → Bool} {W W' : World} {bs : List Nat} (h : InC g p H W) (hg : GrownL bs W W') (hn : g ∉ bs) : InC g p H W' := fun i hi => hg.cell (h i hi) hn
theorem InC.of_rb {g n c p : Nat} {H : Int → Bool} {W : World} {L : Nat} (h : RB (.slice (some ⟨g, 0, none⟩) n c) (marks L H) W) (hp : p ≤ L) : InC g p H W := fun i hi => by
  obtain ⟨A, c', e, _, hx⟩ := h
  obtain ⟨rfl, -, -⟩ : some ⟨g, 0, none⟩ = A ∧ n = (marks L H).length ∧ c = c' := by simpa using e
  obtain ⟨b, o, e', hc⟩ := hx (by rw [marks_len]; omega)
  obtain ⟨rfl, rfl⟩ : g = b ∧ 0 = o := by simpa using e'
  have := hc i _ (marks_at L H i (by omega))
  rwa [Nat.zero_add] at this

/-- The first two blocks of Fewest: the set, the result. -/
def FwX (w : World) (v0 v1 : Value) (W : World) : Prop :=
  NSd w v0 v1 W ∧ W.heap[w.heap.size + 1]? = some (.cells #[.slice none 0 0, .slice none 0 0] 25 (0, 0)) ∧ w.heap.size + 2 ≤ W.heap.size
section
variable {w W W' : World} {v0 v1 : Value} {bs : List Nat}
theorem FwX.ns (h : FwX w v0 v1 W) : NSd w v0 v1 W := h.1
theorem FwX.bel (h : FwX w v0 v1 W) : Below w.heap.size w W := h.1.bel
theorem FwX.siz (h : FwX w v0 v1 W) : w.heap.size + 2 ≤ W.heap.size := h.2.2
theorem FwX.below (h : FwX w v0 v1 W) (hb : Below W.heap.size W W') : FwX w v0 v1 W' := ⟨h.1.below hb, (hb.block _ (by have := h.2.2; omega)).trans h.2.1, Nat.le_trans h.2.2 hb.size⟩
theorem FwX.grown (h : FwX w v0 v1 W) (hg : GrownL bs W W') (hn : ∀ b ∈ bs, w.heap.size + 2 ≤ b) : FwX w v0 v1 W' := by
  obtain ⟨h1, h2, h3⟩ := h
  obtain ⟨a0, a1, l1, hB⟩ := h1.out
  have n0 : w.heap.size ∉ bs := fun hm => by have := hn _ hm; omega
  have n1 : w.heap.size + 1 ∉ bs := fun hm => by have := hn _ hm; omega
  exact ⟨⟨hg.cell a0 n0, hg.cell a1 n0, by have := hg.size; omega, hB.trans (hg.below (fun b hb => by have := hn b hb; omega) (by omega))⟩, (hg.block _ (by omega) n1).trans h2, Nat.le_trans h3 hg.size⟩
theorem FwX.res (h : FwX w v0 v1 W) : W.cell? ⟨w.heap.size + 1, 0, none⟩ = some (.slice none 0 0) ∧ W.cell? ⟨w.heap.size + 1, 1, none⟩ = some (.slice none 0 0) ∧ W.frozen? ⟨w.heap.size + 1, 0, none⟩ = false ∧ W.frozen? ⟨w.heap.size + 1, 1, none⟩ = false :=
  ⟨by simp [World.cell?, h.2.1], by simp [World.cell?, h.2.1], by simp [World.frozen?, h.2.1], by simp [World.frozen?, h.2.1]⟩
theorem FwX.setres (h : FwX w v0 v1 W) (x y : Value) : ((W.setCell ⟨w.heap.size + 1, 0, none⟩ x).setCell ⟨w.heap.size + 1, 1, none⟩ y).cell? ⟨w.heap.size + 1, 0, none⟩ = some x ∧ ((W.setCell ⟨w.heap.size + 1, 0, none⟩ x).setCell ⟨w.heap.size + 1, 1, none⟩ y).cell? ⟨w.heap.size + 1, 1, none⟩ = some y := by
  obtain ⟨r0, r1, _, _⟩ := h.res
  have t : Two (w.heap.size + 1) (.slice none 0 0) (.slice none 0 0) W := ⟨r0, r1, by have := h.2.2; omega⟩
  have t' := t.set x y
  exact ⟨t'.1, t'.2.1⟩
theorem FwX.setbel (h : FwX w v0 v1 W) (x y : Value) : Below w.heap.size w ((W.setCell ⟨w.heap.size + 1, 0, none⟩ x).setCell ⟨w.heap.size + 1, 1, none⟩ y) :=
  (h.bel.setCell (p := ⟨w.heap.size + 1, 0, none⟩) (by simp) _).setCell (p := ⟨w.heap.size + 1, 1, none⟩) (by simp) _
theorem FwX.new (w : World) (v0 v1 : Value) : FwX w v0 v1 ((w.alloc (.cells #[v0, v1] 25)).alloc (.cells #[.slice none 0 0, .slice none 0 0] 25)) := by
  refine ⟨(NSd.new _).alloc _, ?_, by simp⟩
  have := World.alloc_heap_new (w.alloc (.cells #[v0, v1] 25)) (.cells #[.slice none 0 0, .slice none 0 0] 25)
  simpa using this
end
theorem rt_nil (w : World) (B : Nat) : RT B (.slice none 0 0) [] w := ⟨none, 0, rfl, by simp, fun h => by simp at h⟩

def FewPost (ts : List T3) (ss : List S2) (c : Int) (w : World) (e : Ending) (w' : World) : Prop :=
  ∃ v l d, e = .returned (.tuple #[.agg #[v, .slice none 0 0], .int .i64 d]) ∧ RT w'.heap.size v l w' ∧ Below w.heap.size w w' ∧ FewIs ts ss c l d

/-- What is known where around gives its marks. -/
structure Round (ts : List T3) (p : Nat) : Prop where
  ne : ts ≠ []
  per : PerH (setB (lotsOf ts [])) p
  p1 : 1 ≤ p
  p2 : p ≤ 40320
  is : PerIs ts [] 0 p 0
/-- A turn's minute is there. -/
theorem set_some {ts : List T3} (hok : AllOk ts []) (h : ts ≠ []) : ∃ n, setB (lotsOf ts []) n = true := by
  rcases ts with _ | ⟨⟨p, f, l⟩, ts⟩
  · exact absurd rfl h
  · obtain ⟨a1, a2, a3, a4, a5, a6⟩ := hok.1 _ (List.mem_cons_self ..)
    refine ⟨f, (setB_iff _ _).2 ⟨lotOfT (p, f, l), by simp [lotsOf], ?_⟩⟩
    show (f - f) % p < l
    simp only at a1 a2 a3 a4 a5 a6
    rw [Int.sub_self, Int.zero_emod]
    omega

end Go.Proofs.YtcdodfehnkgjdaaGreatDoor

/- Contract of Fewest, where a round is longer than one; and whole. -/
namespace Go.Proofs.YtcdodfehnkgjdaaGreatDoor
open Go.RowKit

/-- What Fewest keeps between two minutes. -/
def FwL (w : World) (v0 v1 : Value) (base g p : Nat) (H : Int → Bool) (v : Value) (l : List T3) (W : World) : Prop :=
  OwnT base v l W ∧ FwX w v0 v1 W ∧ InC g p H W ∧ base ≤ W.heap.size
theorem FwL.own {w W : World} {v0 v1 v : Value} {base g p : Nat} {H : Int → Bool} {l : List T3} (h : FwL w v0 v1 base g p H v l W) : OwnT base v l W := h.1
theorem FwL.fw {w W : World} {v0 v1 v : Value} {base g p : Nat} {H : Int → Bool} {l : List T3} (h : FwL w v0 v1 base g p H v l W) : FwX w v0 v1 W := h.2.1
theorem FwL.inc {w W : World} {v0 v1 v : Value} {base g p : Nat} {H : Int → Bool} {l : List T3} (h : FwL w v0 v1 base g p H v l W) : InC g p H W := h.2.2.1
theorem FwL.siz {w W : World} {v0 v1 v : Value} {base g p : Nat} {H : Int → Bool} {l : List T3} (h : FwL w v0 v1 base g p H v l W) : base ≤ W.heap.size := h.2.2.2
theorem FwL.cast {w W : World} {v0 v1 v : Value} {base g p : Nat} {H : Int → Bool} {l l' : List T3} (h : FwL w v0 v1 base g p H v l W) (e : l' = l) : FwL w v0 v1 base g p H v l' W := e ▸ h
theorem GrownL.of_by' {w w' : World} {v : Value} (h : w.grownBy w' v.ownBlock) : GrownL v.ownBlock.toList w w' :=
  ⟨h.os, h.tape, h.output, h.size, fun k hk hn => h.block k hk (fun e => hn (by simp [← e]))⟩

/-- The facts of a round: its least period, and what is known of it. -/
theorem round_of {ts : List T3} (hc : CheckIs ts [] 0) (ht : ts ≠ []) (ho : ¬ Over ts) : ∃ p : Nat, Round ts p ∧ 1 ≤ p ∧ p ≤ (roundOf ts).length ∧ RepB (roundOf ts) p ∧ (∀ q, 1 ≤ q → q < p → ¬ RepB (roundOf ts) q) ∧ (roundOf ts).length ≤ 40320 := by
  obtain ⟨k1, k2, k3⟩ := checkIs_ok hc
  have l1 := lcmS_pos _ ts rfl (fun t q => (k3.1 t q).1)
  have l2 : lcmS ts ≤ 40320 := by
    by_cases c : lcmS ts ≤ 40320
    · exact c
    · exact absurd ⟨ts.length, Nat.le_refl _, by rw [List.take_length]; omega⟩ ho
  have hl : (roundOf ts).length = (lcmS ts).toNat := by unfold roundOf; rw [marks_len]
  obtain ⟨p, p1, p2, p3, p4⟩ := least_one (RepB (roundOf ts)) (roundOf ts).length (by omega) (repB_full _)
  have hP : PerH (setB (lotsOf ts [])) ((lcmS ts).toNat : Nat) := fun n => by
    have := set_again k3 n 1
    rw [Int.mul_one] at this
    rwa [show (((lcmS ts).toNat : Nat) : Int) = lcmS ts by omega]
  exact ⟨p, ⟨ht, ((repB_iff hP p1 (by omega)).1 p3).2, p1, by omega, .inr (.inr ⟨rfl, rfl, ht, ho, l1, l2, rfl, p, rfl, p1, p2, p3, p4⟩)⟩, p1, p2, p3, p4, by omega⟩

end Go.Proofs.YtcdodfehnkgjdaaGreatDoor

/- Contract of the specification's Fewest. -/
namespace Go.Proofs.YtcdodfehnkgjdaaGreatDoor
open Go.RowKit

/-- What the specification's Fewest keeps: the set, the result, and the set that it makes. -/
structure RfL (w : World) (v0 v1 : Value) (n1 : Nat) (v : Value) (l : List T3) (W : World) : Prop where
  own : OwnT (n1 + 2) v l W
  ns : NSd w v0 v1 W
  res : W.heap[w.heap.size + 1]? = some (.cells #[.slice none 0 0, .slice none 0 0, .int .i64 0] 31 (0, 0))
  c0 : W.cell? ⟨n1 + 1, 0, none⟩ = some v
  c1 : W.cell? ⟨n1 + 1, 1, none⟩ = some (.slice none 0 0)
  c2 : W.cell? ⟨n1 + 1, 2, none⟩ = some (.int .i64 0)
  f0 : W.frozen? ⟨n1 + 1, 0, none⟩ = false
  le : w.heap.size + 2 ≤ n1
  siz : n1 + 2 ≤ W.heap.size
section
variable {w W W' : World} {v0 v1 v : Value} {n1 : Nat} {l l' : List T3} {bs : List Nat}
theorem RfL.cast (h : RfL w v0 v1 n1 v l W) (e : l' = l) : RfL w v0 v1 n1 v l' W := e ▸ h
theorem RfL.below (h : RfL w v0 v1 n1 v l W) (hb : Below W.heap.size W W') : RfL w v0 v1 n1 v l W' := by
  have hs := h.siz
  have hle := h.le
  have lt : ∀ o, (⟨n1 + 1, o, none⟩ : Addr).block < W.heap.size := fun o => by show n1 + 1 < _; omega
  exact ⟨h.own.grown (GrownL.of_below (bs := []) hb) (by simp), h.ns.below hb, (hb.block _ (by omega)).trans h.res, (hb.cell (lt 0)).trans h.c0, (hb.cell (lt 1)).trans h.c1, (hb.cell (lt 2)).trans h.c2, (hb.frozen (lt 0)).trans h.f0, hle, Nat.le_trans hs hb.size⟩
theorem RfL.rres (h : RfL w v0 v1 n1 v l W) : W.cell? ⟨w.heap.size + 1, 0, none⟩ = some (.slice none 0 0) ∧ W.cell? ⟨w.heap.size + 1, 1, none⟩ = some (.slice none 0 0) ∧ W.cell? ⟨w.heap.size + 1, 2, none⟩ = some (.int .i64 0) ∧ W.frozen? ⟨w.heap.size + 1, 0, none⟩ = false ∧ W.frozen? ⟨w.heap.size + 1, 1, none⟩ = false ∧ W.frozen? ⟨w.heap.size + 1, 2, none⟩ = false :=
  ⟨by simp [World.cell?, h.res], by simp [World.cell?, h.res], by simp [World.cell?, h.res], by simp [World.frozen?, h.res], by simp [World.frozen?, h.res], by simp [World.frozen?, h.res]⟩
end
/-- Three cells of a block that are written. -/
theorem set3 {W : World} {b : Nat} {x y z : Value} (h0 : W.cell? ⟨b, 0, none⟩ = some x) (h1 : W.cell? ⟨b, 1, none⟩ = some y) (h2 : W.cell? ⟨b, 2, none⟩ = some z) (x' y' z' : Value) :
    (((W.setCell ⟨b, 0, none⟩ x').setCell ⟨b, 1, none⟩ y').setCell ⟨b, 2, none⟩ z').cell? ⟨b, 0, none⟩ = some x' ∧ (((W.setCell ⟨b, 0, none⟩ x').setCell ⟨b, 1, none⟩ y').setCell ⟨b, 2, none⟩ z').cell? ⟨b, 1, none⟩ = some y' ∧ (((W.setCell ⟨b, 0, none⟩ x').setCell ⟨b, 1, none⟩ y').setCell ⟨b, 2, none⟩ z').cell? ⟨b, 2, none⟩ = some z' := by
  have a0 := World.cell?_setCell_same' W ⟨b, 0, none⟩ x' (by rw [h0]; rfl)
  have a1 : (W.setCell ⟨b, 0, none⟩ x').cell? ⟨b, 1, none⟩ = some y := by rw [World.cell?_setCell_other _ _ _ _ (by simp)]; exact h1
  have a2 : (W.setCell ⟨b, 0, none⟩ x').cell? ⟨b, 2, none⟩ = some z := by rw [World.cell?_setCell_other _ _ _ _ (by simp)]; exact h2
  have b1 := World.cell?_setCell_same' (W.setCell ⟨b, 0, none⟩ x') ⟨b, 1, none⟩ y' (by rw [a1]; rfl)
  have b0 : ((W.setCell ⟨b, 0, none⟩ x').setCell ⟨b, 1, none⟩ y').cell? ⟨b, 0, none⟩ = some x' := by rw [World.cell?_setCell_other _ _ _ _ (by simp)]; exact a0
  have b2 : ((W.setCell ⟨b, 0, none⟩ x').setCell ⟨b, 1, none⟩ y').cell? ⟨b, 2, none⟩ = some z := by rw [World.cell?_setCell_other _ _ _ _ (by simp)]; exact a2
  have c2 := World.cell?_setCell_same' ((W.setCell ⟨b, 0, none⟩ x').setCell ⟨b, 1, none⟩ y') ⟨b, 2, none⟩ z' (by rw [b2]; rfl)
  exact ⟨by rw [World.cell?_setCell_other _ _ _ _ (by simp)]; exact b0, by rw [World.cell?_setCell_other _ _ _ _ (by simp)]; exact b1, c2⟩
end Go.Proofs.YtcdodfehnkgjdaaGreatDoor

/- Contract of the specification's Fewest: the walk. -/
namespace Go.Proofs.YtcdodfehnkgjdaaGreatDoor
open Go.RowKit

def RFewPost (ts : List T3) (ss : List S2) (c : Int) (w : World) (e : Ending) (w' : World) : Prop :=
  ∃ v l d, e = .returned (.agg #[v, .slice none 0 0, .int .i64 d]) ∧ RT w'.heap.size v l w' ∧ Below w.heap.size w w' ∧ FewIs ts ss c l d
theorem rowT_succ {base n : Nat} {v : Value} {xs : List Value} {W : World} (h : W.ownsRow base 42 3 v (n + 1) xs) : ∃ g cap, v = .slice (some ⟨g, 0, none⟩) (n + 1) cap := by
  rcases h.2 with ⟨_, h0⟩ | ⟨g, cap, cur, rfl, _⟩
  · omega
  · exact ⟨g, cap, rfl⟩
theorem PerIs.cases {ts : List T3} {ss : List S2} {c r d : Int} (h : PerIs ts ss c r d) : (d ≠ 0 ∧ r = 0) ∨ (d = 0 ∧ c = 0 ∧ ss = [] ∧ ∃ p : Nat, r = p ∧ 1 ≤ p ∧ p ≤ 40320) := by
  rcases h with ⟨⟨a, b⟩ | ⟨a, b, e⟩, f⟩ | ⟨a, b, e, f, g, i⟩ | ⟨a, b, e, f, l1, l2, g, p, i, j, k, l, m⟩
  · exact .inl ⟨by omega, f⟩
  · exact .inl ⟨by omega, f⟩
  · exact .inl ⟨by omega, g⟩
  · refine .inr ⟨g, a, b, p, i, j, ?_⟩
    have : (roundOf ts).length = (lcmS ts).toNat := by unfold roundOf; rw [marks_len]
    omega

theorem NSd.grownL {w W W' : World} {v0 v1 : Value} {bs : List Nat} (h : NSd w v0 v1 W) (hg : GrownL bs W W') (hn : ∀ b ∈ bs, w.heap.size + 1 ≤ b) : NSd w v0 v1 W' := by
  obtain ⟨a0, a1, l1, hB⟩ := h.out
  have n0 : w.heap.size ∉ bs := fun hm => by have := hn _ hm; omega
  exact ⟨hg.cell a0 n0, hg.cell a1 n0, by have := hg.size; omega, hB.trans (hg.below (fun b hb => by have := hn b hb; omega) (by omega))⟩
/-- One turn more. -/
theorem RfL.more {w W w4 : World} {v0 v1 v : Value} {n1 n g' cap' : Nat} {l : List T3} {x : T3} (h : RfL w v0 v1 n1 v l W) (hga : GrownL v.ownBlock.toList W w4) (hn : l.length = n)
    (hown : w4.ownsRow (n1 + 2) 42 3 (.slice (some ⟨g', 0, none⟩) (n + 1) cap') (n + 1) (rowT3 l ++ [.int .i64 x.1, .int .i64 x.2.1, .int .i64 x.2.2])) :
    RfL w v0 v1 n1 (.slice (some ⟨g', 0, none⟩) (n + 1) cap') (l ++ [x]) (w4.setCell ⟨n1 + 1, 0, none⟩ (.slice (some ⟨g', 0, none⟩) (n + 1) cap')) := by
  have hlt := fun q (hq : q ∈ v.ownBlock.toList) => h.own.lt q (by simpa using hq)
  have hle := h.le
  have hs := hga.size
  have hsz := h.siz
  have hn1 : n1 + 1 ∉ v.ownBlock.toList := fun hm => by have := hlt _ hm; omega
  have gs := GrownL.set (bs := [n1 + 1]) w4 ⟨n1 + 1, 0, none⟩ (.slice (some ⟨g', 0, none⟩) (n + 1) cap') (by simp)
  have hg' := (World.ownsRow.lt hown g' rfl).1
  have e0 : w4.cell? ⟨n1 + 1, 0, none⟩ = some v := hga.cell h.c0 hn1
  have e1 : w4.cell? ⟨n1 + 1, 1, none⟩ = some (.slice none 0 0) := hga.cell h.c1 hn1
  have e2 : w4.cell? ⟨n1 + 1, 2, none⟩ = some (.int .i64 0) := hga.cell h.c2 hn1
  refine ⟨?_, (h.ns.grownL hga (fun q hq => by have := hlt q hq; omega)).grownL gs (fun q hq => by simp at hq; omega), ?_, World.cell?_setCell_same' _ _ _ (by rw [e0]; rfl), ?_, ?_, ?_, hle, ?_⟩
  · refine OwnT.grown (bs := [n1 + 1]) (W := w4) ?_ gs (fun q hq hm => by simp [Value.ownBlock] at hq hm; omega)
    unfold OwnT
    rw [rowT3_snoc, List.length_append, hn]
    exact hown
  · exact (gs.block _ (by omega) (by simp; omega)).trans ((hga.block _ (by omega) (fun hm => by have := hlt _ hm; omega)).trans h.res)
  · rw [World.cell?_setCell_other _ _ _ _ (by simp)]; exact e1
  · rw [World.cell?_setCell_other _ _ _ _ (by simp)]; exact e2
  · rw [World.frozen?_setCell]
    exact (World.frozen?_of_block (a := ⟨n1 + 1, 0, none⟩) (hga.block _ (by show n1 + 1 < _; omega) hn1)).trans h.f0
  · have := gs.size; omega

end Go.Proofs.YtcdodfehnkgjdaaGreatDoor
