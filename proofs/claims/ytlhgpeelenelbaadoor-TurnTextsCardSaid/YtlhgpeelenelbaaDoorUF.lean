/- Two sets in memory; contracts of checkBoth and season. -/
import Derived.Test.YtlhgpeelenelbaaDoorHB
import Derived.Test.YtlhgpeelenelbaaDoorE4
import Derived.Test.YtlhgpeelenelbaaDoorFF
import Derived.Test.YtlhgpeelenelbaaDoorJK
import Derived.Test.YtlhgpeelenelbaaDoorM2
import Derived.Test.YtlhgpeelenelbaaDoorE7
import Derived.Maps.AppendAt
namespace Go.Proofs.YtlhgpeelenelbaaDoor
open Go.RowKit

theorem check_rm {v : Value} {ts : List T3} {ss : List S2} {c : Int} {w : World} (h : RM w.heap.size v ts ss w) (hc : CheckIs ts ss c) :
    Calls Tryd.prog 25 #[v] w fun e w' => e = .returned (.int .i64 c) ∧ Below w.heap.size w w' := by
  obtain ⟨a, b, e, a', b', e', rfl, x1, x2⟩ := h
  exact check_any _ _ ts ss c w x1 x2 hc
theorem rcheck_rm {v : Value} {ts : List T3} {ss : List S2} {c : Int} {w : World} (h : RM w.heap.size v ts ss w) (hc : CheckIs ts ss c) :
    Calls Tryd.prog 26 #[v] w fun e w' => e = .returned (.int .i64 c) ∧ Below w.heap.size w w' := by
  obtain ⟨a, b, e, a', b', e', rfl, x1, x2⟩ := h
  exact rcheck_any _ _ ts ss c w x1 x2 hc

/-- The two sets that a function holds in its first blocks. -/
abbrev N2 (w : World) (v0 v1 u0 u1 : Value) (W : World) : Prop :=
  W.cell? ⟨w.heap.size, 0, none⟩ = some v0 ∧ W.cell? ⟨w.heap.size, 1, none⟩ = some v1 ∧ W.cell? ⟨w.heap.size + 1, 0, none⟩ = some u0 ∧ W.cell? ⟨w.heap.size + 1, 1, none⟩ = some u1 ∧ w.heap.size + 1 < W.heap.size ∧ Below w.heap.size w W
def N2d (w : World) (v0 v1 u0 u1 : Value) (W : World) : Prop := N2 w v0 v1 u0 u1 W
section
variable {w W W' : World} {v0 v1 u0 u1 : Value}
theorem N2d.out (h : N2d w v0 v1 u0 u1 W) : N2 w v0 v1 u0 u1 W := h
theorem N2d.below (h : N2d w v0 v1 u0 u1 W) (hb : Below W.heap.size W W') : N2d w v0 v1 u0 u1 W' := by
  obtain ⟨a0, a1, b0, b1, l1, hB⟩ := h.out
  have hs := hb.size
  exact ⟨(hb.cell (p := ⟨w.heap.size, 0, none⟩) (by show w.heap.size < _; omega)).trans a0, (hb.cell (p := ⟨w.heap.size, 1, none⟩) (by show w.heap.size < _; omega)).trans a1, (hb.cell (p := ⟨w.heap.size + 1, 0, none⟩) l1).trans b0, (hb.cell (p := ⟨w.heap.size + 1, 1, none⟩) l1).trans b1, by omega, hB.trans (hb.mono (by omega))⟩
theorem N2d.drew (h : N2d w v0 v1 u0 u1 W) : N2d w v0 v1 u0 u1 W.drew := h.below (Below.refl _ _).drew
theorem N2d.alloc (h : N2d w v0 v1 u0 u1 W) (o : Obj) : N2d w v0 v1 u0 u1 (W.alloc o) := h.below ((Below.refl _ _).alloc (Nat.le_refl _) o)
theorem N2d.new (t t' : TypeId) : N2d w v0 v1 u0 u1 ((w.alloc (.cells #[v0, v1] t)).alloc (.cells #[u0, u1] t')) :=
  ⟨by simp [go_sem], by simp [go_sem], by simp [go_sem], by simp [go_sem], by simp, ((Below.refl _ _).alloc (Nat.le_refl _) _).alloc (by simp) _⟩
theorem N2d.bel (h : N2d w v0 v1 u0 u1 W) : Below w.heap.size w W := h.out.2.2.2.2.2
theorem N2d.siz (h : N2d w v0 v1 u0 u1 W) : w.heap.size ≤ W.heap.size := h.bel.size
end

/-- The error of two sets. -/
def BothIs (c c' d : Int) : Prop := (c ≠ 0 ∧ d = c) ∨ (c = 0 ∧ d = c')
theorem BothIs.exists_ (c c' : Int) : ∃ d, BothIs c c' d := by
  by_cases h : c = 0
  · exact ⟨_, .inr ⟨h, rfl⟩⟩
  · exact ⟨_, .inl ⟨h, rfl⟩⟩

set_option maxHeartbeats 1000000 in
set_option maxRecDepth 100000 in
theorem checkBoth_any (va vb : Value) (ts ts2 : List T3) (ss ss2 : List S2) (c c' d : Int) (w : World) (h : RM w.heap.size va ts ss w) (h' : RM w.heap.size vb ts2 ss2 w) (hc : CheckIs ts ss c) (hc' : CheckIs ts2 ss2 c') (hd : BothIs c c' d) :
    Calls Tryd.prog 98 #[va, vb] w fun e w' => e = .returned (.int .i64 d) ∧ Below w.heap.size w w' := by
  obtain ⟨A, k, ca, A', k', ca', rfl, -⟩ := id h
  obtain ⟨B, l, cb, B', l', cb', rfl, -⟩ := id h'
  have C := Lib.hid fun W (S : N2d w (.slice A k ca) (.slice A' k' ca') (.slice B l cb) (.slice B' l' cb') W) => check_rm (h.up S.siz S.bel) hc
  have C' := Lib.hid fun W (S : N2d w (.slice A k ca) (.slice A' k' ca') (.slice B l cb) (.slice B' l' cb') W) => check_rm (h'.up S.siz S.bel) hc'
  have S0 := Lib.hid (N2d.new (w := w) (v0 := .slice A k ca) (v1 := .slice A' k' ca') (u0 := .slice B l cb) (u1 := .slice B' l' cb') 25 25)
  clear h h' hc hc'
  rcases hd with ⟨h0, rfl⟩ | ⟨rfl, rfl⟩
  · go_enter Tryd.func98, Tryd.ntmps98
    go_wp2_with fail
    refine (C.out _ S0.out).mono ?_
    rintro e w1 ⟨rfl, h1⟩
    have S := Lib.hid (S0.out.below h1)
    clear h1 S0
    go_wp2_with fail
    go_ret
    exact ⟨rfl, S.out.bel⟩
  · go_enter Tryd.func98, Tryd.ntmps98
    go_wp2_with fail
    refine (C.out _ S0.out).mono ?_
    rintro e w1 ⟨rfl, h1⟩
    have S := Lib.hid (S0.out.below h1)
    clear h1 S0
    obtain ⟨t0, t1, t2, t3, t4, _⟩ := S.out.out
    go_wp2_with fail
    refine (C'.out _ S.out).mono ?_
    rintro e w2 ⟨rfl, h2⟩
    have S := Lib.hid (S.out.below h2)
    clear h2 t0 t1 t2 t3 t4
    go_wp2_with fail
    go_ret
    exact ⟨rfl, S.out.bel⟩

set_option maxHeartbeats 400000 in
theorem season_any (w : World) : Calls Tryd.prog 100 #[] w fun e w' => e = .returned (sv2 0 1048576) ∧ Below w.heap.size w w' := by
  go_enter Tryd.func100, Tryd.ntmps100
  go_wp2_with fail
  exact bodyPost_ret (v := sv2 0 1048576) (by simp [results, Tryd.results100, go_sem]) rfl ⟨rfl, (Below.refl _ _).alloc (Nat.le_refl _) _⟩
end Go.Proofs.YtlhgpeelenelbaaDoor

/- Contracts of around and Period where there is an error, and both together. -/
namespace Go.Proofs.YtlhgpeelenelbaaDoor
open Go.RowKit

set_option maxHeartbeats 2000000 in
set_option maxRecDepth 100000 in
theorem around_err (v : Value) (ts : List T3) (ss : List S2) (c d : Int) (w : World) (h : RM w.heap.size v ts ss w) (hc : CheckIs ts ss c) (hd : (c ≠ 0 ∧ d = c) ∨ (c = 0 ∧ (ss ≠ [] ∨ ts = []) ∧ d = 1)) :
    Calls Tryd.prog 103 #[v] w fun e w' => e = .returned (.tuple #[.slice none 0 0, .int .i64 d]) ∧ Below w.heap.size w w' := by
  obtain ⟨A, m, ca, A', m', ca', rfl, r1, r2⟩ := id h
  obtain ⟨A1, c1, e1, n1, -⟩ := r1
  obtain ⟨rfl, rfl, rfl⟩ : A = A1 ∧ m = ts.length ∧ ca = c1 := by simpa using e1
  obtain ⟨A2, c2, e2, n2, -⟩ := r2
  obtain ⟨rfl, rfl, rfl⟩ : A' = A2 ∧ m' = ss.length ∧ ca' = c2 := by simpa using e2
  have C := Lib.hid fun W (S : NSd w (.slice A ts.length ca) (.slice A' ss.length ca') W) => check_rm (h.up S.siz S.bel) hc
  have S0 := Lib.hid (NSd.new (w := w) (v0 := .slice A ts.length ca) (v1 := .slice A' ss.length ca') 25)
  clear h hc e1 e2
  rcases hd with ⟨h0, rfl⟩ | ⟨rfl, h1, rfl⟩
  · have hb0 : (d != 0) = true := by rw [bne_iff_ne]; exact h0
    clear h0
    go_enter Tryd.func103, Tryd.ntmps103
    go_wp2_with fail
    refine (C.out _ S0.out).mono ?_
    rintro e w1 ⟨rfl, h1⟩
    have S := Lib.hid (S0.out.below h1)
    clear h1 S0
    go_wp2_with fail
    go_ret2
    exact ⟨rfl, S.out.bel⟩
  · by_cases hs : ss = []
    · have ht : ts = [] := by rcases h1 with h | h; exact absurd hs h; exact h
      subst hs ht
      clear h1
      go_enter Tryd.func103, Tryd.ntmps103
      go_wp2_with fail
      refine (C.out _ S0.out).mono ?_
      rintro e w1 ⟨rfl, h1⟩
      have S := Lib.hid (S0.out.below h1)
      clear h1 S0
      obtain ⟨t0, t1, t2, _⟩ := S.out.out
      go_wp2_with fail
      go_ret2
      exact ⟨rfl, S.out.bel⟩
    · obtain ⟨x0, sl, rfl⟩ : ∃ x0 sl, ss = x0 :: sl := by
        cases ss with
        | nil => exact absurd rfl hs
        | cons x l => exact ⟨x, l, rfl⟩
      have k1 : decide ((0 : Int) < (((x0 :: sl).length : Nat) : Int)) = true := decide_eq_true (by simp <;> omega)
      obtain ⟨ns, hns⟩ : ∃ ns, (x0 :: sl).length = ns := ⟨_, rfl⟩
      rw [hns] at C S0 k1 ⊢
      have k2 : (0 : Int) < (ns : Int) := by simpa using k1
      have k3 : 0 < ns := by omega
      clear h1 hs hns
      go_enter Tryd.func103, Tryd.ntmps103
      go_wp2_with fail
      refine (C.out _ S0.out).mono ?_
      rintro e w1 ⟨rfl, h1⟩
      have S := Lib.hid (S0.out.below h1)
      clear h1 S0
      obtain ⟨t0, t1, t2, _⟩ := S.out.out
      go_wp2_with fail
      go_ret2
      exact ⟨rfl, S.out.bel⟩

set_option maxHeartbeats 2000000 in
theorem period_err (v : Value) (ts : List T3) (ss : List S2) (c d : Int) (w : World) (h : RM w.heap.size v ts ss w) (hc : CheckIs ts ss c) (hd : (c ≠ 0 ∧ d = c) ∨ (c = 0 ∧ (ss ≠ [] ∨ ts = []) ∧ d = 1)) :
    Calls Tryd.prog 46 #[v] w fun e w' => e = .returned (.tuple #[.int .i64 0, .int .i64 d]) ∧ Below w.heap.size w w' := by
  obtain ⟨A, m, ca, A', m', ca', rfl, -, -⟩ := id h
  have C := Lib.hid fun W (S : NSd w (.slice A m ca) (.slice A' m' ca') W) => around_err _ ts ss c d W (h.up S.siz S.bel) hc hd
  have S0 := Lib.hid (NSd.new (w := w) (v0 := .slice A m ca) (v1 := .slice A' m' ca') 25)
  clear h hc hd
  go_enter Tryd.func46, Tryd.ntmps46
  go_wp2_with fail
  refine (C.out _ S0.out).mono ?_
  rintro e w1 ⟨rfl, h1⟩
  have S := Lib.hid (S0.out.below h1)
  clear h1 S0
  go_wp2_with fail
  go_ret2
  exact ⟨rfl, S.out.bel⟩

/-- What Period returns: a number and an error. -/
def PerIs (ts : List T3) (ss : List S2) (c r d : Int) : Prop :=
  (((c ≠ 0 ∧ d = c) ∨ (c = 0 ∧ (ss ≠ [] ∨ ts = []) ∧ d = 1)) ∧ r = 0) ∨
  (c = 0 ∧ ss = [] ∧ ts ≠ [] ∧ Over ts ∧ r = 0 ∧ d = 2) ∨
  (c = 0 ∧ ss = [] ∧ ts ≠ [] ∧ ¬ Over ts ∧ 1 ≤ lcmS ts ∧ lcmS ts ≤ 40320 ∧ d = 0 ∧ ∃ p : Nat, r = p ∧ 1 ≤ p ∧ p ≤ (roundOf ts).length ∧ RepB (roundOf ts) p ∧ ∀ q, 1 ≤ q → q < p → ¬ RepB (roundOf ts) q)
theorem period_any (v : Value) (ts : List T3) (ss : List S2) (c : Int) (w : World) (h : RM w.heap.size v ts ss w) (hc : CheckIs ts ss c) :
    Calls Tryd.prog 46 #[v] w fun e w' => ∃ r d, e = .returned (.tuple #[.int .i64 r, .int .i64 d]) ∧ PerIs ts ss c r d ∧ Below w.heap.size w w' := by
  by_cases h0 : c = 0
  · subst h0
    by_cases h1 : ss ≠ [] ∨ ts = []
    · refine (period_err v ts ss 0 1 w h hc (.inr ⟨rfl, h1, rfl⟩)).mono ?_
      rintro e w' ⟨rfl, hb⟩
      exact ⟨0, 1, rfl, .inl ⟨.inr ⟨rfl, h1, rfl⟩, rfl⟩, hb⟩
    · obtain ⟨hs, ht⟩ : ss = [] ∧ ts ≠ [] := ⟨Classical.byContradiction fun h => h1 (.inl h), fun h => h1 (.inr h)⟩
      subst hs
      refine (period_main v ts w h hc (List.length_pos_iff.2 ht)).mono ?_
      rintro e w' ⟨⟨ho, rfl⟩ | ⟨ho, l1, l2, p, p1, p2, p3, p4, rfl⟩, hb⟩
      · exact ⟨0, 2, rfl, .inr (.inl ⟨rfl, rfl, ht, ho, rfl, rfl⟩), hb⟩
      · exact ⟨p, 0, rfl, .inr (.inr ⟨rfl, rfl, ht, ho, l1, l2, rfl, p, rfl, p1, p2, p3, p4⟩), hb⟩
  · refine (period_err v ts ss c c w h hc (.inl ⟨h0, rfl⟩)).mono ?_
    rintro e w' ⟨rfl, hb⟩
    exact ⟨0, c, rfl, .inl ⟨.inl ⟨h0, rfl⟩, rfl⟩, hb⟩
end Go.Proofs.YtlhgpeelenelbaaDoor

/- Contracts of the law's multiple and soon, and of the specification's all: the least common multiple of all periods. -/
namespace Go.Proofs.YtlhgpeelenelbaaDoor
open Go.RowKit

set_option maxHeartbeats 2000000 in
set_option maxRecDepth 100000 in
theorem lmultiple_any (a b : Int) (w : World) (ha : 1 ≤ a) (hb : 1 ≤ b) (ha' : a ≤ 1000000000) (hb' : b ≤ 1000000000) :
    Calls Tryd.prog 102 #[.int .i64 a, .int .i64 b] w fun e w' => e = .returned (.int .i64 (a / (Int.gcd a b : Int) * b)) ∧ ∃ n, w' = w.drewN n := by
  have g1 := gcd_pos (b := b) ha
  have g2 := gcd_le (b := b) ha
  obtain ⟨g, hg⟩ : ∃ g : Int, (Int.gcd a b : Int) = g := ⟨_, rfl⟩
  rw [hg] at g1 g2 ⊢
  have Hg0 := Lib.hid hg
  clear hg
  have hz0 : (g == 0) = false := beq_eq_false_iff_ne.2 (by omega)
  have hzn : ¬ g = 0 := by omega
  have d1 : 0 ≤ a / g := Int.ediv_nonneg (by omega) (by omega)
  have d2 : a / g ≤ a := Int.ediv_le_self _ (by omega)
  have m1 : 0 ≤ a / g * b := Int.mul_nonneg d1 (by omega)
  have m2 : a / g * b ≤ 1000000000 * 1000000000 := Int.mul_le_mul (by omega) (by omega) (by omega) (by omega)
  go_enter Tryd.func102, Tryd.ntmps102
  go_wp2_with fail
  go_loopw [5, 6] (fun u v wr => ∃ x y : Int, u = .int .i64 x ∧ v = .int .i64 y ∧ 0 ≤ x ∧ 0 ≤ y ∧ x ≤ 9000000000000000 ∧ y ≤ 9000000000000000 ∧ Int.gcd x y = Int.gcd a b ∧ ∃ n, wr = w.drewN n) (fun _ v _ => (intOf v).toNat)
  case atStart => exact ⟨a, b, rfl, rfl, by omega, by omega, by omega, by omega, rfl, 0, rfl⟩
  case round =>
    obtain ⟨x, y, rfl, rfl, hx, hy, hx', hy', hgg, n, rfl⟩ := hrel
    have Hg := Lib.hid hgg
    clear hgg
    by_cases hz : y = 0
    · subst hz
      have hxg : x = g := by
        have h1 := Hg.out
        have h2 := Hg0.out
        rw [← h1] at h2
        simp at h2
        omega
      subst hxg
      go_wp2_with fail
      go_ret
      exact ⟨rfl, n, rfl⟩
    · have hy0 : (y == 0) = false := beq_eq_false_iff_ne.2 hz
      have hy1 : (0 : Int) < y := by omega
      have h1 : 0 ≤ x % y := Int.emod_nonneg _ hz
      have h2 : x % y < y := Int.emod_lt_of_pos x (by omega)
      clear g1 g2 hz0 hzn d1 d2 m1 m2
      go_wp2_with fail
      go_quiet (fail)
      go_wp2_with fail
      go_roundw
      case rel => exact ⟨y, x % y, rfl, rfl, by omega, h1, by omega, by omega, by rw [gcd_step x y hx (by omega)]; exact Hg.out, _, World.drewN_drewN _ _ _⟩
      case measure => show (x % y).toNat < y.toNat; omega

/-- All prefixes have a common multiple that is small enough, up to k. -/
def LcmTo (ts : List T3) (k : Nat) : Prop := ∀ j, j ≤ k → lcmS (ts.take j) ≤ 40320
theorem lcmTo_zero (ts : List T3) : LcmTo ts 0 := fun j hj => by
  obtain rfl : j = 0 := by omega
  exact (by decide : (1 : Int) ≤ 40320)
theorem not_over {ts : List T3} (h : LcmTo ts ts.length) : ¬ Over ts := fun ⟨k, hk, ho⟩ => by have := h k hk; omega
theorem lcm_step {ts : List T3} {k : Nat} {p f l : Int} (h : ts[k]? = some (p, f, l)) : lcmS (ts.take (k + 1)) = lcmF (lcmS (ts.take k)) p := by
  obtain ⟨q1, q2⟩ := List.getElem?_eq_some_iff.1 h
  rw [List.take_succ_eq_append_getElem q1, lcmS_snoc, q2]

/-- What the specification's all says. -/
def AllIs (ts : List T3) (r : Int) : Prop := (Over ts ∧ r = 0) ∨ (¬ Over ts ∧ r = lcmS ts)
set_option maxHeartbeats 4000000 in
set_option maxRecDepth 100000 in
theorem rall_any (v : Value) (ts : List T3) (ss : List S2) (w : World) (h : RM w.heap.size v ts ss w) (hok : AllOk ts ss) :
    Calls Tryd.prog 104 #[v] w fun e w' => ∃ r, e = .returned (.int .i64 r) ∧ AllIs ts r ∧ Below w.heap.size w w' := by
  obtain ⟨A, m, ca, A', m', ca', rfl, r1, -⟩ := id h
  obtain ⟨A1, c1, e1, n1, hx⟩ := r1
  obtain ⟨rfl, rfl, rfl⟩ : A = A1 ∧ m = ts.length ∧ ca = c1 := by simpa using e1
  have HX := Lib.hid hx
  have HK := Lib.hid hok
  have S0 := Lib.hid (NSd.new (w := w) (v0 := .slice A ts.length ca) (v1 := .slice A' m' ca') 25)
  clear h hx hok e1
  go_enter Tryd.func104, Tryd.ntmps104
  go_wp2_with fail
  go_loopw [3, 4] (fun a b wr => ∃ k : Nat, b = .int .i64 k ∧ k ≤ ts.length ∧ a = .int .i64 (lcmS (ts.take k)) ∧ LcmTo ts k ∧ NSd w (.slice A ts.length ca) (.slice A' m' ca') wr) (fun _ b _ => ts.length - (intOf b).toNat)
  case atStart => exact ⟨0, rfl, by omega, rfl, lcmTo_zero ts, S0.out⟩
  case round =>
    obtain ⟨k, rfl, hk, rfl, hle, hS⟩ := hrel
    have HLE := Lib.hid hle
    have S := Lib.hid hS
    clear hle hS
    obtain ⟨t0, t1, t2, _⟩ := S.out.out
    by_cases hkn : k < ts.length
    · obtain ⟨bt, ot, rfl, hbt, hcs⟩ := HX.out (by omega)
      obtain ⟨⟨tp, tf, tl⟩, ht⟩ : ∃ t, ts[k]? = some t := ⟨_, List.getElem?_eq_getElem hkn⟩
      obtain ⟨r0, -, -⟩ := hcs k tp tf tl ht
      have c0 := (S.out.bel.cell (p := ⟨bt, ot + k * 3, none⟩) hbt).trans r0
      have hk0 : (k : Int) < (ts.length : Int) := by omega
      obtain ⟨t3, t4, -⟩ := HK.out.1 _ (List.mem_of_getElem? ht)
      have hp := lcmS_pos _ (ts.take k) rfl (fun t q => (HK.out.1 t (List.mem_of_mem_take q)).1)
      have hq := HLE.out k (Nat.le_refl _)
      have HT := Lib.hid (lcm_step ht)
      simp only at t3 t4
      clear ht r0 hcs
      generalize lcmS (ts.take k) = L at *
      have M : Hid (∀ W, Calls Tryd.prog 83 #[.int .i64 L, .int .i64 tp] W fun e w' => e = .returned (.int .i64 (lcmF L tp)) ∧ W = w') := Lib.hid fun W => rmultiple_any L tp W hp t3 (by omega) (by omega)
      generalize lcmF L tp = L2 at *
      by_cases hbig : 40320 < L2
      · have HO : Hid (Over ts) := Lib.hid ⟨k + 1, by omega, by rw [HT.out]; exact hbig⟩
        have hb1 : decide ((40320 : Int) < L2) = true := decide_eq_true hbig
        clear hbig
        go_wp2_with fail
        refine (M.out _).mono ?_
        rintro e w4 ⟨rfl, rfl⟩
        go_wp2_with fail
        go_ret
        exact ⟨0, rfl, .inl ⟨HO.out, rfl⟩, S.out.bel⟩
      · have HL2 : Hid (L2 ≤ 40320) := Lib.hid (by omega)
        have hb1 : decide ((40320 : Int) < L2) = false := decide_eq_false hbig
        clear hbig
        go_wp2_with fail
        refine (M.out _).mono ?_
        rintro e w4 ⟨rfl, rfl⟩
        go_wp2_with fail
        go_roundw
        case rel =>
          refine ⟨k + 1, by go_num, by omega, by rw [HT.out], fun j hj => ?_, S.out⟩
          by_cases c : j ≤ k
          · exact HLE.out j c
          · obtain rfl : j = k + 1 := by omega
            rw [HT.out]; exact HL2.out
        case measure => show ts.length - ((k : Int) + 1).toNat < ts.length - (k : Int).toNat; omega
    · have hk0 : (ts.length : Int) ≤ (k : Int) := by omega
      have HKL : Hid (k = ts.length) := Lib.hid (by omega)
      have HR : Hid (AllIs ts (lcmS (ts.take k))) := Lib.hid (.inr ⟨not_over (HKL.out ▸ HLE.out), by rw [HKL.out, List.take_length]⟩)
      generalize lcmS (ts.take k) = L at *
      go_wp2_with fail
      go_ret
      exact ⟨L, rfl, HR.out, S.out.bel⟩

set_option maxHeartbeats 4000000 in
set_option maxRecDepth 100000 in
theorem soon_any (v : Value) (ts : List T3) (ss : List S2) (c most : Int) (w : World) (h : RM w.heap.size v ts ss w) (hc : CheckIs ts ss c) :
    Calls Tryd.prog 45 #[v, .int .i64 most] w fun e w' => (∃ b, e = .returned (.bool b)) ∧ Below w.heap.size w w' := by
  obtain ⟨A, m, ca, A', m', ca', rfl, r1, -⟩ := id h
  obtain ⟨A1, c1, e1, n1, hx⟩ := r1
  obtain ⟨rfl, rfl, rfl⟩ : A = A1 ∧ m = ts.length ∧ ca = c1 := by simpa using e1
  have HX := Lib.hid hx
  have C := Lib.hid fun W (S : NSd w (.slice A ts.length ca) (.slice A' m' ca') W) => rcheck_rm (h.up S.siz S.bel) hc
  have S0 := Lib.hid (NSd.new (w := w) (v0 := .slice A ts.length ca) (v1 := .slice A' m' ca') 25)
  clear h hx e1
  by_cases h0 : c = 0
  · subst h0
    have HK := Lib.hid (checkIs_ok hc).2.2
    clear hc
    go_enter Tryd.func45, Tryd.ntmps45
    go_wp2_with fail
    refine (C.out _ S0.out).mono ?_
    rintro e w1 ⟨rfl, h1⟩
    have S1 := Lib.hid (S0.out.below h1)
    clear h1 S0
    go_wp2_with fail
    go_loopw [5, 6] (fun a b wr => ∃ k : Nat, b = .int .i64 k ∧ k ≤ ts.length ∧ a = .int .i64 (lcmS (ts.take k)) ∧ LcmTo ts k ∧ NSd w (.slice A ts.length ca) (.slice A' m' ca') wr) (fun _ b _ => ts.length - (intOf b).toNat)
    case atStart => exact ⟨0, rfl, by omega, rfl, lcmTo_zero ts, S1.out⟩
    case round =>
      obtain ⟨k, rfl, hk, rfl, hle, hS⟩ := hrel
      have HLE := Lib.hid hle
      have S := Lib.hid hS
      clear hle hS
      obtain ⟨t0, t1, t2, _⟩ := S.out.out
      by_cases hkn : k < ts.length
      · obtain ⟨bt, ot, rfl, hbt, hcs⟩ := HX.out (by omega)
        obtain ⟨⟨tp, tf, tl⟩, ht⟩ : ∃ t, ts[k]? = some t := ⟨_, List.getElem?_eq_getElem hkn⟩
        obtain ⟨r0, -, -⟩ := hcs k tp tf tl ht
        have c0 := (S.out.bel.cell (p := ⟨bt, ot + k * 3, none⟩) hbt).trans r0
        have hk0 : (k : Int) < (ts.length : Int) := by omega
        obtain ⟨t3, t4, -⟩ := HK.out.1 _ (List.mem_of_getElem? ht)
        have hp := lcmS_pos _ (ts.take k) rfl (fun t q => (HK.out.1 t (List.mem_of_mem_take q)).1)
        have hq := HLE.out k (Nat.le_refl _)
        have HT := Lib.hid (lcm_step ht)
        simp only at t3 t4
        clear ht r0 hcs
        generalize lcmS (ts.take k) = L at *
        have M : Hid (∀ W, Calls Tryd.prog 102 #[.int .i64 L, .int .i64 tp] W fun e w' => e = .returned (.int .i64 (lcmF L tp)) ∧ ∃ n, w' = W.drewN n) := Lib.hid fun W => lmultiple_any L tp W hp t3 (by omega) (by omega)
        generalize lcmF L tp = L2 at *
        by_cases hbig : 40320 < L2
        · have hb1 : decide ((40320 : Int) < L2) = true := decide_eq_true hbig
          clear hbig
          go_wp2_with fail
          refine (M.out _).mono ?_
          rintro e w4 ⟨rfl, n4, hw4⟩
          have B4 : Hid (Below w.heap.size w w4) := Lib.hid (by rw [hw4]; exact below_drewN S.out.bel _)
          clear hw4
          go_wp2_with fail
          go_ret
          exact ⟨⟨_, rfl⟩, B4.out⟩
        · have HL2 : Hid (L2 ≤ 40320) := Lib.hid (by omega)
          have hb1 : decide ((40320 : Int) < L2) = false := decide_eq_false hbig
          clear hbig
          go_wp2_with fail
          refine (M.out _).mono ?_
          rintro e w4 ⟨rfl, n4, hw4⟩
          have S4 : Hid (NSd w (.slice (some ⟨bt, ot, none⟩) ts.length ca) (.slice A' m' ca') w4) := Lib.hid (by rw [hw4]; exact S.out.below (below_drewN (Below.refl _ _) _))
          clear hw4
          go_wp2_with fail
          go_roundw
          case rel =>
            refine ⟨k + 1, by go_num, by omega, by rw [HT.out], fun j hj => ?_, S4.out⟩
            by_cases c : j ≤ k
            · exact HLE.out j c
            · obtain rfl : j = k + 1 := by omega
              rw [HT.out]; exact HL2.out
          case measure => show ts.length - ((k : Int) + 1).toNat < ts.length - (k : Int).toNat; omega
      · have hk0 : (ts.length : Int) ≤ (k : Int) := by omega
        generalize lcmS (ts.take k) = L at *
        go_wp2_with fail
        go_ret
        exact ⟨⟨_, rfl⟩, S.out.bel⟩
  · have hb0 : (c != 0) = true := by rw [bne_iff_ne]; exact h0
    clear h0 hc
    go_enter Tryd.func45, Tryd.ntmps45
    go_wp2_with fail
    refine (C.out _ S0.out).mono ?_
    rintro e w1 ⟨rfl, h1⟩
    have S := Lib.hid (S0.out.below h1)
    clear h1 S0
    go_wp2_with fail
    go_ret
    exact ⟨⟨_, rfl⟩, S.out.bel⟩
end Go.Proofs.YtlhgpeelenelbaaDoor

/- Plain mathematics: with which period a set of turns comes again; the fewest turns. -/
namespace Go.Proofs.YtlhgpeelenelbaaDoor

theorem lcmS_dvd : ∀ (n : Nat) (l : List T3), l.length = n → (∀ t ∈ l, 1 ≤ t.1) → ∀ t ∈ l, t.1 ∣ lcmS l
  | 0, l, hn, _, t, ht => by
    obtain rfl : l = [] := List.eq_nil_of_length_eq_zero hn
    cases ht
  | n + 1, l, hn, h, t, ht => by
    rcases list_cases l with rfl | ⟨i, x, rfl⟩
    · cases ht
    · rw [lcmS_snoc]
      rcases List.mem_append.1 ht with ht | ht
      · exact Int.dvd_trans (lcmS_dvd n i (by simp at hn; omega) (fun y hy => h y (List.mem_append.2 (.inl hy))) t ht) (lcmF_dvd_left _ _)
      · simp at ht
        subst ht
        exact lcmF_dvd_right _ _
/-- Where all comes again. -/
theorem set_again {ts : List T3} (hok : AllOk ts []) (n : Int) (q : Int) : setB (lotsOf ts []) (n + lcmS ts * q) = setB (lotsOf ts []) n := by
  rw [Bool.eq_iff_iff, setB_iff, setB_iff]
  have key : ∀ x ∈ lotsOf ts [], x.has (n + lcmS ts * q) ↔ x.has n := by
    intro x hx
    simp [lotsOf] at hx
    obtain ⟨p, f, l, ht, rfl⟩ := hx
    have hp := (hok.1 _ ht).1
    obtain ⟨d, hd⟩ := lcmS_dvd _ ts rfl (fun t h => (hok.1 t h).1) _ ht
    show (n + lcmS ts * q - f) % p < l ↔ (n - f) % p < l
    simp only at hd
    rw [hd, show n + p * d * q - f = n - f + p * (d * q) by rw [Int.mul_assoc]; omega, Int.add_mul_emod_self_left]
  constructor
  · rintro ⟨x, hx, h⟩
    exact ⟨x, hx, (key x hx).1 h⟩
  · rintro ⟨x, hx, h⟩
    exact ⟨x, hx, (key x hx).2 h⟩

/-- The set comes again after p. -/
def PerH (H : Int → Bool) (p : Int) : Prop := ∀ n, H (n + p) = H n
theorem PerH.mul {H : Int → Bool} {p : Int} (h : PerH H p) (n : Int) : ∀ q : Nat, H (n + p * q) = H n
  | 0 => by rw [show n + p * ((0 : Nat) : Int) = n by simp]
  | q + 1 => by
    rw [show n + p * ((q + 1 : Nat) : Int) = n + p * (q : Int) + p by rw [Int.natCast_add, Int.mul_add]; omega, h, PerH.mul h n q]
theorem PerH.mulZ {H : Int → Bool} {p : Int} (h : PerH H p) (n q : Int) : H (n + p * q) = H n := by
  rcases Int.le_total 0 q with c | c
  · have := h.mul n q.toNat
    rwa [show ((q.toNat : Nat) : Int) = q by omega] at this
  · have := h.mul (n + p * q) (-q).toNat
    rw [show (((-q).toNat : Nat) : Int) = -q by omega, show n + p * q + p * -q = n by rw [Int.mul_neg]; omega] at this
    exact this.symm
theorem PerH.mod {H : Int → Bool} {p : Int} (h : PerH H p) (n : Int) : H (n % p) = H n := by
  have := h.mulZ (n % p) (n / p)
  rw [Int.emod_add_mul_ediv] at this
  exact this.symm

theorem repB_iff {H : Int → Bool} {L p : Nat} (hL : PerH H L) (hp : 1 ≤ p) (hpL : p ≤ L) : RepB (marks L H) p ↔ (L % p = 0 ∧ PerH H p) := by
  unfold RepB
  rw [marks_len]
  constructor
  · rintro ⟨hm, hd⟩
    refine ⟨hm, ?_⟩
    have step : ∀ i : Nat, i + p < L → H ((i + p : Nat) : Int) = H (i : Int) := fun i hi => by
      have h1 : ((marks L H).drop p)[i]? = ((marks L H).take (L - p))[i]? := by rw [hd]
      rw [List.getElem?_drop, List.getElem?_take_of_lt (by omega), marks_at L H (p + i) (by omega), marks_at L H i (by omega)] at h1
      have := Option.some.inj h1
      rw [show i + p = p + i by omega]
      exact this
    have run : ∀ (t i : Nat), i + p * t < L → H ((i + p * t : Nat) : Int) = H (i : Int) := by
      intro t
      induction t with
      | zero => intro i _; simp
      | succ t ih =>
        intro i hi
        have e : i + p * (t + 1) = i + p * t + p := by rw [Nat.mul_add]; omega
        rw [e] at hi ⊢
        rw [step _ hi, ih i (by omega)]
    have low : ∀ i : Nat, i < L → H ((i + p : Nat) : Int) = H (i : Int) := fun i hi => by
      by_cases c : i + p < L
      · exact step i c
      · obtain ⟨t, ht⟩ : ∃ t, L = p * t := ⟨L / p, by have := Nat.div_add_mod L p; omega⟩
        have ht1 : 1 ≤ t := by
          rcases t with _ | t
          · omega
          · omega
        obtain ⟨s, rfl⟩ : ∃ s, t = s + 1 := ⟨t - 1, by omega⟩
        have e : p * (s + 1) = p * s + p := by rw [Nat.mul_add]; omega
        have h1 : H ((i + p : Nat) : Int) = H ((i + p - L : Nat) : Int) := by
          rw [← hL ((i + p - L : Nat) : Int)]
          congr 1
          omega
        have h2 := run s (i + p - L) (by omega)
        rw [h1, ← h2]
        congr 1
        omega
    intro n
    have hLp : (0 : Int) < L := by omega
    have e0 : 0 ≤ n % L := Int.emod_nonneg _ (by omega)
    have e1 : n % L < L := Int.emod_lt_of_pos _ hLp
    have h1 := low (n % L).toNat (by omega)
    rw [show (((n % L).toNat + p : Nat) : Int) = n % L + p by omega, show (((n % L).toNat : Nat) : Int) = n % L by omega] at h1
    have h2 := hL.mulZ (n % L + p) (n / L)
    have h3 := hL.mulZ (n % L) (n / L)
    have e := Int.emod_add_mul_ediv n L
    rw [show n % L + p + (L : Int) * (n / L) = n + p by omega] at h2
    rw [e] at h3
    rw [h2, h1, h3]
  · rintro ⟨hm, hp'⟩
    refine ⟨hm, ?_⟩
    apply List.ext_getElem?
    intro i
    rw [List.getElem?_drop]
    by_cases c : i < L - p
    · rw [List.getElem?_take_of_lt c, marks_at L H (p + i) (by omega), marks_at L H i (by omega)]
      have := hp' (i : Int)
      rw [show (i : Int) + p = ((p + i : Nat) : Int) by omega] at this
      rw [this]
    · rw [List.getElem?_eq_none (by rw [marks_len]; omega), List.getElem?_eq_none (by rw [List.length_take, marks_len]; omega)]
/-- To come again is to be asked in one round alone. -/
theorem perH_iff {H : Int → Bool} {L : Nat} (h1 : 1 ≤ L) (hL : PerH H L) (p : Int) : PerH H p ↔ ∀ n : Int, 0 ≤ n → n < L → H n = H (n + p) := by
  constructor
  · exact fun h n _ _ => (h n).symm
  · intro h n
    have e0 : 0 ≤ n % L := Int.emod_nonneg _ (by omega)
    have e1 : n % L < L := Int.emod_lt_of_pos _ (by omega)
    have h2 := hL.mulZ (n % L + p) (n / L)
    have h3 := hL.mulZ (n % L) (n / L)
    have e := Int.emod_add_mul_ediv n L
    rw [show n % L + p + (L : Int) * (n / L) = n + p by omega] at h2
    rw [e] at h3
    rw [h2, h3, h _ e0 e1]
end Go.Proofs.YtlhgpeelenelbaaDoor

/- Contracts of the specification's again and Period. -/
namespace Go.Proofs.YtlhgpeelenelbaaDoor
open Go.RowKit

/-- What again returns. -/
def AgainPost (H : Int → Bool) (p l : Int) (w : World) (e : Ending) (w' : World) : Prop := ∃ b, e = .returned (.bool b) ∧ (b = true ↔ ∀ n : Int, 0 ≤ n → n < l → H n = H (n + p)) ∧ Below w.heap.size w w'
set_option maxHeartbeats 4000000 in
set_option maxRecDepth 100000 in
theorem ragain_any (v : Value) (ts : List T3) (ss : List S2) (p l : Int) (w : World) (h : RM w.heap.size v ts ss w) (hok : AllOk ts ss) (k1 : ts.length ≤ 24) (k2 : ss.length ≤ 40) (p0 : 0 ≤ p) (p1 : p ≤ 100000) (l0 : 0 ≤ l) (l1 : l ≤ 100000) :
    Calls Tryd.prog 105 #[v, .int .i64 p, .int .i64 l] w (AgainPost (setB (lotsOf ts ss)) p l w) := by
  obtain ⟨A, m, ca, A', m', ca', rfl, -, -⟩ := id h
  have CH := Lib.hid fun (n : Int) W (n0 : -1000000000 ≤ n) (n1 : n ≤ 1000000000) (S : NSd w (.slice A m ca) (.slice A' m' ca') W) => rhas_any _ ts ss n W (h.up S.siz S.bel) hok k1 k2 n0 n1
  generalize setB (lotsOf ts ss) = H at *
  have S0 := Lib.hid (NSd.new (w := w) (v0 := .slice A m ca) (v1 := .slice A' m' ca') 25)
  clear h hok
  go_enter Tryd.func105, Tryd.ntmps105
  go_wp2_with fail
  go_loopw [7] (fun u wr => ∃ n : Int, u = .int .i64 n ∧ 0 ≤ n ∧ n ≤ l ∧ (∀ i, 0 ≤ i → i < n → H i = H (i + p)) ∧ NSd w (.slice A m ca) (.slice A' m' ca') wr) (fun u _ => (l - intOf u).toNat)
  case atStart => exact ⟨0, rfl, by omega, l0, fun i _ _ => by omega, S0.out⟩
  case round =>
    obtain ⟨n, rfl, m0, m1, hl, S3⟩ := hrel
    have HL := Lib.hid hl
    have S := Lib.hid S3
    clear hl S3
    obtain ⟨t0, t1, t2, _⟩ := S.out.out
    by_cases hlt : n < l
    · have Ra := Lib.hid fun W S => CH.out n W (by omega) (by omega) S
      have Rb := Lib.hid fun W S => CH.out (n + p) W (by omega) (by omega) S
      obtain ⟨x, hx⟩ : ∃ x, H n = x := ⟨_, rfl⟩
      obtain ⟨y, hy⟩ : ∃ y, H (n + p) = y := ⟨_, rfl⟩
      rw [hx] at Ra
      rw [hy] at Rb
      have HX := Lib.hid hx
      have HY := Lib.hid hy
      have W1 : IntKind.i64.wrap (n + p) = n + p := IntWalk.i64_in _ (by omega)
      clear hx hy
      cases x <;> cases y
      all_goals
        go_wp2_with fail
        refine (Ra.out _ S.out).mono ?_
        rintro e w3 ⟨rfl, h3⟩
        have S := Lib.hid (S.out.below h3)
        clear h3 t0 t1 t2
        obtain ⟨t0, t1, t2, _⟩ := S.out.out
        go_wp2_with fail
        refine (Rb.out _ S.out).mono ?_
        rintro e w4 ⟨rfl, h4⟩
        have S := Lib.hid (S.out.below h4)
        clear h4 t0 t1 t2
        go_wp2_with fail
        first
          | (go_ret
             exact ⟨false, rfl, ⟨fun h => (by cases h), fun h => (by have := h n m0 hlt; rw [HX.out, HY.out] at this; cases this)⟩, S.out.bel⟩)
          | (go_roundw
             case rel => exact ⟨n + 1, rfl, by omega, by omega, fun i i0 i1 => (by
               by_cases c : i < n
               · exact HL.out i i0 c
               · obtain rfl : i = n := by omega
                 rw [HX.out, HY.out]), S.out⟩
             case measure => show (l - (n + 1)).toNat < (l - n).toNat; omega)
    · go_wp2_with fail
      go_ret
      exact ⟨true, rfl, ⟨fun _ i i0 i1 => HL.out i i0 (by omega), fun _ => rfl⟩, S.out.bel⟩

theorem PerIs.unique {ts : List T3} {ss : List S2} {c r d r' d' : Int} (h : PerIs ts ss c r d) (h' : PerIs ts ss c r' d') : r = r' ∧ d = d' := by
  rcases h with ⟨⟨a, b⟩ | ⟨a, b, e⟩, f⟩ | ⟨a, b, e, f, g, i⟩ | ⟨a, b, e, f, _, _, g, p, i, j, k, l, m⟩ <;> rcases h' with ⟨⟨a', b'⟩ | ⟨a', b', e'⟩, f'⟩ | ⟨a', b', e', f', g', i'⟩ | ⟨a', b', e', f', _, _, g', p', i', j', k', l', m'⟩
  all_goals first
    | exact ⟨by omega, by omega⟩
    | exact absurd a a'
    | exact absurd a' a
    | exact absurd f f'
    | exact absurd f' f
    | (rcases b with b | b <;> first | exact absurd b' b | exact absurd b e')
    | (rcases b' with b' | b' <;> first | exact absurd b b' | exact absurd b' e)
    | (refine ⟨?_, by omega⟩
       rcases Nat.lt_trichotomy p p' with c | c | c
       · exact absurd l (m' p j c)
       · omega
       · exact absurd l' (m p' j' c))

/-- The first two blocks of Period: a set and the result. -/
def PdX (w : World) (v0 v1 : Value) (W : World) : Prop :=
  NSd w v0 v1 W ∧ W.heap[w.heap.size + 1]? = some (.cells #[.int .i64 0, .int .i64 0] 63 (0, 0)) ∧ w.heap.size + 2 ≤ W.heap.size
section
variable {w W W' : World} {v0 v1 : Value}
theorem PdX.ns (h : PdX w v0 v1 W) : NSd w v0 v1 W := h.1
theorem PdX.bel (h : PdX w v0 v1 W) : Below w.heap.size w W := h.1.bel
theorem PdX.below (h : PdX w v0 v1 W) (hb : Below W.heap.size W W') : PdX w v0 v1 W' := ⟨h.1.below hb, (hb.block _ (by have := h.2.2; omega)).trans h.2.1, Nat.le_trans h.2.2 hb.size⟩
theorem PdX.res (h : PdX w v0 v1 W) : W.cell? ⟨w.heap.size + 1, 0, none⟩ = some (.int .i64 0) ∧ W.cell? ⟨w.heap.size + 1, 1, none⟩ = some (.int .i64 0) ∧ W.frozen? ⟨w.heap.size + 1, 0, none⟩ = false ∧ W.frozen? ⟨w.heap.size + 1, 1, none⟩ = false :=
  ⟨by simp [World.cell?, h.2.1], by simp [World.cell?, h.2.1], by simp [World.frozen?, h.2.1], by simp [World.frozen?, h.2.1]⟩
theorem PdX.setres (h : PdX w v0 v1 W) (x y : Value) : ((W.setCell ⟨w.heap.size + 1, 0, none⟩ x).setCell ⟨w.heap.size + 1, 1, none⟩ y).cell? ⟨w.heap.size + 1, 0, none⟩ = some x ∧ ((W.setCell ⟨w.heap.size + 1, 0, none⟩ x).setCell ⟨w.heap.size + 1, 1, none⟩ y).cell? ⟨w.heap.size + 1, 1, none⟩ = some y := by
  obtain ⟨r0, r1, _, _⟩ := h.res
  have t : Two (w.heap.size + 1) (.int .i64 0) (.int .i64 0) W := ⟨r0, r1, by have := h.2.2; omega⟩
  have t' := t.set x y
  exact ⟨t'.1, t'.2.1⟩
theorem PdX.setbel (h : PdX w v0 v1 W) (x y : Value) : Below w.heap.size w ((W.setCell ⟨w.heap.size + 1, 0, none⟩ x).setCell ⟨w.heap.size + 1, 1, none⟩ y) :=
  (h.bel.setCell (p := ⟨w.heap.size + 1, 0, none⟩) (by simp) _).setCell (p := ⟨w.heap.size + 1, 1, none⟩) (by simp) _
theorem PdX.new (w : World) (v0 v1 : Value) : PdX w v0 v1 ((w.alloc (.cells #[v0, v1] 25)).alloc (.cells #[.int .i64 0, .int .i64 0] 63)) := by
  refine ⟨(NSd.new _).alloc _, ?_, by simp⟩
  have := World.alloc_heap_new (w.alloc (.cells #[v0, v1] 25)) (.cells #[.int .i64 0, .int .i64 0] 63)
  simpa using this
end

def FoundPost (ts : List T3) (ss : List S2) (c : Int) (w : World) (e : Ending) (w' : World) : Prop := ∃ r d, e = .returned (.agg #[.int .i64 r, .int .i64 d]) ∧ PerIs ts ss c r d ∧ Below w.heap.size w w'

set_option maxHeartbeats 4000000 in
set_option maxRecDepth 100000 in
theorem rperiod_err (v : Value) (ts : List T3) (ss : List S2) (c : Int) (w : World) (h : RM w.heap.size v ts ss w) (hc : CheckIs ts ss c) (hd : c ≠ 0 ∨ (c = 0 ∧ (ss ≠ [] ∨ ts = []))) :
    Calls Tryd.prog 47 #[v] w (FoundPost ts ss c w) := by
  obtain ⟨A, m, ca, A', m', ca', rfl, r1, r2⟩ := id h
  obtain ⟨A1, c1, e1, n1, -⟩ := r1
  obtain ⟨rfl, rfl, rfl⟩ : A = A1 ∧ m = ts.length ∧ ca = c1 := by simpa using e1
  obtain ⟨A2, c2, e2, n2, -⟩ := r2
  obtain ⟨rfl, rfl, rfl⟩ : A' = A2 ∧ m' = ss.length ∧ ca' = c2 := by simpa using e2
  have C := Lib.hid fun W (S : NSd w (.slice A ts.length ca) (.slice A' ss.length ca') W) => rcheck_rm (h.up S.siz S.bel) hc
  have S0 := Lib.hid (PdX.new w (.slice A ts.length ca) (.slice A' ss.length ca'))
  clear h hc e1 e2
  rcases hd with h0 | ⟨rfl, h1⟩
  · have hb0 : (c != 0) = true := by rw [bne_iff_ne]; exact h0
    have HP : Hid (PerIs ts ss c 0 c) := Lib.hid (.inl ⟨.inl ⟨h0, rfl⟩, rfl⟩)
    clear h0
    go_enter Tryd.func47, Tryd.ntmps47
    go_wp2_with fail
    refine (C.out _ S0.out.ns).mono ?_
    rintro e w1 ⟨rfl, h1⟩
    have S := Lib.hid (S0.out.below h1)
    clear h1 S0
    obtain ⟨x0, x1, f0, f1⟩ := S.out.res
    go_wp2_with fail
    refine bodyPost_ret (v := .agg #[.int .i64 0, .int .i64 c]) ?_ rfl ?_
    · have q := S.out.setres (.int .i64 0) (.int .i64 c)
      simp [results, Tryd.results47, go_sem, q.1, q.2]
    · exact ⟨0, c, rfl, HP.out, S.out.setbel _ _⟩
  · have HP : Hid (PerIs ts ss 0 0 1) := Lib.hid (.inl ⟨.inr ⟨rfl, h1, rfl⟩, rfl⟩)
    by_cases hs : ss = []
    · have ht : ts = [] := by rcases h1 with h | h; exact absurd hs h; exact h
      subst hs ht
      clear h1
      go_enter Tryd.func47, Tryd.ntmps47
      go_wp2_with fail
      refine (C.out _ S0.out.ns).mono ?_
      rintro e w1 ⟨rfl, h1⟩
      have S := Lib.hid (S0.out.below h1)
      clear h1 S0
      obtain ⟨t0, t1, t2, _⟩ := S.out.ns.out
      obtain ⟨x0, x1, f0, f1⟩ := S.out.res
      go_wp2_with fail
      refine bodyPost_ret (v := .agg #[.int .i64 0, .int .i64 1]) ?_ rfl ?_
      · have q := S.out.setres (.int .i64 0) (.int .i64 1)
        simp [results, Tryd.results47, go_sem, q.1, q.2]
      · exact ⟨0, 1, rfl, HP.out, S.out.setbel _ _⟩
    · have hn : 0 < ss.length := List.length_pos_iff.2 hs
      obtain ⟨ns, hns⟩ : ∃ ns, ss.length = ns := ⟨_, rfl⟩
      rw [hns] at C S0 hn ⊢
      have k1 : decide ((0 : Int) < (ns : Int)) = true := decide_eq_true (by omega)
      have k2 : (0 : Int) < (ns : Int) := by omega
      clear h1 hs hns
      go_enter Tryd.func47, Tryd.ntmps47
      go_wp2_with fail
      refine (C.out _ S0.out.ns).mono ?_
      rintro e w1 ⟨rfl, h1⟩
      have S := Lib.hid (S0.out.below h1)
      clear h1 S0
      obtain ⟨t0, t1, t2, _⟩ := S.out.ns.out
      obtain ⟨x0, x1, f0, f1⟩ := S.out.res
      go_wp2_with fail
      refine bodyPost_ret (v := .agg #[.int .i64 0, .int .i64 1]) ?_ rfl ?_
      · have q := S.out.setres (.int .i64 0) (.int .i64 1)
        simp [results, Tryd.results47, go_sem, q.1, q.2]
      · exact ⟨0, 1, rfl, HP.out, S.out.setbel _ _⟩

set_option maxHeartbeats 4000000 in
set_option maxRecDepth 100000 in
theorem rperiod_ok (v : Value) (ts : List T3) (w : World) (h : RM w.heap.size v ts [] w) (hc : CheckIs ts [] 0) (ht : ts ≠ []) :
    Calls Tryd.prog 47 #[v] w (FoundPost ts [] 0 w) := by
  obtain ⟨k1, k2, k3⟩ := checkIs_ok hc
  obtain ⟨A, m, ca, A', m', ca', rfl, r1, r2⟩ := id h
  obtain ⟨A1, c1, e1, n1, -⟩ := r1
  obtain ⟨rfl, rfl, rfl⟩ : A = A1 ∧ m = ts.length ∧ ca = c1 := by simpa using e1
  obtain ⟨A2, c2, e2, n2, -⟩ := r2
  obtain ⟨rfl, rfl, rfl⟩ : A' = A2 ∧ m' = 0 ∧ ca' = c2 := by simpa using e2
  have C := Lib.hid fun W (S : NSd w (.slice A ts.length ca) (.slice A' 0 ca') W) => rcheck_rm (h.up S.siz S.bel) hc
  have CA := Lib.hid fun W (S : NSd w (.slice A ts.length ca) (.slice A' 0 ca') W) => rall_any _ ts [] W (h.up S.siz S.bel) k3
  have CG := Lib.hid fun (p l : Int) W (p0 : 0 ≤ p) (p1 : p ≤ 100000) (l0 : 0 ≤ l) (l1 : l ≤ 100000) (S : NSd w (.slice A ts.length ca) (.slice A' 0 ca') W) => ragain_any _ ts [] p l W (h.up S.siz S.bel) k3 k1 k2 p0 p1 l0 l1
  have HP : Hid (PerH (setB (lotsOf ts [])) (lcmS ts)) := Lib.hid fun n => by
    have := set_again k3 n 1
    rwa [Int.mul_one] at this
  have hL1 : Hid (1 ≤ lcmS ts) := Lib.hid (lcmS_pos _ ts rfl (fun t q => (k3.1 t q).1))
  have S0 := Lib.hid (PdX.new w (.slice A ts.length ca) (.slice A' 0 ca'))
  have hn : 0 < ts.length := List.length_pos_iff.2 ht
  have hn1 : ((ts.length : Int) == 0) = false := beq_eq_false_iff_ne.2 (by omega)
  have HTS := Lib.hid ht
  clear h hc e1 e2 k1 k2 k3
  go_enter Tryd.func47, Tryd.ntmps47
  go_wp2_with fail
  refine (C.out _ S0.out.ns).mono ?_
  rintro e w1 ⟨rfl, h1⟩
  have S1 := Lib.hid (S0.out.below h1)
  clear h1 S0
  obtain ⟨t0, t1, t2, _⟩ := S1.out.ns.out
  go_wp2_with fail
  clear hn hn1 ht
  refine (CA.out _ S1.out.ns).mono ?_
  rintro e w2 ⟨r, rfl, har, h2⟩
  have S2 := Lib.hid (S1.out.below h2)
  clear h2 S1 t0 t1 t2
  obtain ⟨x0, x1, f0, f1⟩ := S2.out.res
  rcases har with ⟨ho, rfl⟩ | ⟨ho, rfl⟩
  · have HO := Lib.hid ho
    clear ho
    go_wp2_with fail
    refine bodyPost_ret (v := .agg #[.int .i64 0, .int .i64 2]) ?_ rfl ?_
    · have q := S2.out.setres (.int .i64 0) (.int .i64 2)
      simp [results, Tryd.results47, go_sem, q.1, q.2]
    · exact ⟨0, 2, rfl, .inr (.inl ⟨rfl, rfl, HTS.out, HO.out, rfl, rfl⟩), S2.out.setbel _ _⟩
  · have hle : Hid (lcmS ts ≤ 40320) := Lib.hid (by
      by_cases c : lcmS ts ≤ 40320
      · exact c
      · exact absurd ⟨ts.length, Nat.le_refl _, by rw [List.take_length]; omega⟩ ho)
    have HO := Lib.hid ho
    obtain ⟨L, hLL⟩ : ∃ L : Nat, lcmS ts = L := ⟨(lcmS ts).toNat, by have := hL1.out; omega⟩
    have HLL := Lib.hid hLL
    have l1 := hL1.out
    have l2 := hle.out
    rw [hLL] at l1 l2 ⊢
    have hz : ((L : Int) == 0) = false := beq_eq_false_iff_ne.2 (by omega)
    have HR : Hid (∀ p : Nat, 1 ≤ p → p ≤ L → (RepB (roundOf ts) p ↔ (L % p = 0 ∧ PerH (setB (lotsOf ts [])) p))) := Lib.hid fun p p1 p2 => by
      unfold roundOf
      rw [HLL.out, Int.toNat_natCast]
      exact repB_iff (by have := HP.out; rwa [HLL.out] at this) p1 p2
    have HLen : Hid ((roundOf ts).length = L) := Lib.hid (by unfold roundOf; rw [marks_len, HLL.out]; simp)
    clear ho hLL x0 x1 f0 f1
    go_wp2_with fail
    go_loopw [5] (fun u wr => ∃ p : Nat, u = .int .i64 p ∧ 1 ≤ p ∧ p ≤ L ∧ (∀ q : Nat, 1 ≤ q → q < p → ¬ RepB (roundOf ts) q) ∧ PdX w (.slice A ts.length ca) (.slice A' 0 ca') wr) (fun u _ => L - (intOf u).toNat)
    case atStart => exact ⟨1, rfl, by omega, by omega, fun q _ _ => by omega, S2.out⟩
    case round =>
      obtain ⟨p, rfl, p1, p2, hq, hS⟩ := hrel
      have HQ := Lib.hid hq
      have S := Lib.hid hS
      clear hq hS
      obtain ⟨t0, t1, t2, _⟩ := S.out.ns.out
      by_cases hlt : p < L
      · have hp0 : ¬ (p : Int) = 0 := by omega
        have hpz : ((p : Int) == 0) = false := beq_eq_false_iff_ne.2 hp0
        have ht : (L : Int).tmod (p : Int) = (L : Int) % (p : Int) := Int.tmod_eq_emod_of_nonneg (by omega)
        have hm0 : 0 ≤ (L : Int) % (p : Int) := Int.emod_nonneg _ hp0
        have hm1 : (L : Int) % (p : Int) < p := Int.emod_lt_of_pos _ (by omega)
        have hmm : ((L : Int) % (p : Int)) = ((L % p : Nat) : Int) := by simp
        have W1 : IntKind.i64.wrap ((L : Int) % (p : Int)) = (L : Int) % (p : Int) := IntWalk.i64_in _ (by omega)
        have hlt' : (p : Int) < (L : Int) := by omega
        have HMM := Lib.hid hmm
        by_cases hm : L % p = 0
        · have hmz : ((L : Int) % (p : Int) == 0) = true := beq_iff_eq.2 (by omega)
          have hmn : ((L : Int) % (p : Int) != 0) = false := by simp [hmm, hm]
          have G := Lib.hid fun W S => CG.out (p : Int) (L : Int) W (by omega) (by omega) (by omega) (by omega) S
          have HM := Lib.hid hm
          generalize (L : Int) % (p : Int) = rr at *
          clear hmm hm
          go_wp2_with fail
          refine (G.out _ S.out.ns).mono ?_
          rintro e w3 ⟨b, rfl, hb, h3⟩
          have S3 := Lib.hid (S.out.below h3)
          have HB := Lib.hid hb
          clear h3 hb t0 t1 t2 S
          cases b
          · go_wp2_with fail
            go_roundw
            case rel =>
              refine ⟨p + 1, by go_num, by omega, by omega, fun q q1 q2 hr => ?_, S3.out⟩
              by_cases c : q < p
              · exact HQ.out q q1 c hr
              · obtain rfl : q = p := by omega
                have h1 := ((HR.out q p1 p2).1 hr).2
                have := HB.out.2 fun n _ _ => (h1 n).symm
                cases this
            case measure => show L - ((p : Int) + 1).toNat < L - (p : Int).toNat; omega
          · obtain ⟨x0, x1, f0, f1⟩ := S3.out.res
            go_wp2_with fail
            refine bodyPost_ret (v := .agg #[.int .i64 p, .int .i64 0]) ?_ rfl ?_
            · have q := S3.out.setres (.int .i64 p) (.int .i64 0)
              simp [results, Tryd.results47, go_sem, q.1, q.2]
            · refine ⟨p, 0, rfl, .inr (.inr ⟨rfl, rfl, HTS.out, HO.out, hL1.out, hle.out, rfl, p, rfl, p1, by rw [HLen.out]; exact p2, ?_, HQ.out⟩), S3.out.setbel _ _⟩
              refine (HR.out p p1 p2).2 ⟨HM.out, (perH_iff (L := L) (by omega) (by have := HP.out; rwa [HLL.out] at this) _).2 ?_⟩
              first | exact HB.out.1 rfl | exact HB.out.1 trivial
        · have hmn : ((L : Int) % (p : Int) != 0) = true := by rw [bne_iff_ne, hmm]; omega
          have HM := Lib.hid hm
          generalize (L : Int) % (p : Int) = rr at *
          clear hmm hm
          go_wp2_with fail
          go_roundw
          case rel =>
            refine ⟨p + 1, by go_num, by omega, by omega, fun q q1 q2 hr => ?_, S.out⟩
            by_cases c : q < p
            · exact HQ.out q q1 c hr
            · obtain rfl : q = p := by omega
              exact HM.out ((HR.out q p1 p2).1 hr).1
          case measure => show L - ((p : Int) + 1).toNat < L - (p : Int).toNat; omega
      · have hge : (L : Int) ≤ (p : Int) := by omega
        have HPL : Hid (p = L) := Lib.hid (by omega)
        obtain ⟨x0, x1, f0, f1⟩ := S.out.res
        go_wp2_with fail
        refine bodyPost_ret (v := .agg #[.int .i64 L, .int .i64 0]) ?_ rfl ?_
        · have q := S.out.setres (.int .i64 L) (.int .i64 0)
          simp [results, Tryd.results47, go_sem, q.1, q.2]
        · refine ⟨L, 0, rfl, .inr (.inr ⟨rfl, rfl, HTS.out, HO.out, hL1.out, hle.out, rfl, L, rfl, by omega, by rw [HLen.out]; omega, ?_, HPL.out ▸ HQ.out⟩), S.out.setbel _ _⟩
          exact (HR.out L (by omega) (Nat.le_refl _)).2 ⟨Nat.mod_self _, by have := HP.out; rwa [HLL.out] at this⟩

theorem rperiod_any (v : Value) (ts : List T3) (ss : List S2) (c : Int) (w : World) (h : RM w.heap.size v ts ss w) (hc : CheckIs ts ss c) :
    Calls Tryd.prog 47 #[v] w (FoundPost ts ss c w) := by
  by_cases h0 : c ≠ 0 ∨ (c = 0 ∧ (ss ≠ [] ∨ ts = []))
  · exact rperiod_err v ts ss c w h hc h0
  · have hc0 : c = 0 := Classical.byContradiction fun h => h0 (.inl h)
    subst hc0
    have hs : ss = [] := Classical.byContradiction fun h => h0 (.inr ⟨rfl, .inl h⟩)
    subst hs
    exact rperiod_ok v ts w h hc (fun h => h0 (.inr ⟨rfl, .inr h⟩))
end Go.Proofs.YtlhgpeelenelbaaDoor

/- Contract of SameSet at two equal sets; the fewest turns, and how a list of turns that grows lies in memory. -/
namespace Go.Proofs.YtlhgpeelenelbaaDoor
open Go.RowKit

set_option maxHeartbeats 4000000 in
set_option maxRecDepth 100000 in
theorem sameSet_eq (va vb : Value) (ts : List T3) (ss : List S2) (w : World) (ha : RM w.heap.size va ts ss w) (hb : RM w.heap.size vb ts ss w) :
    Calls Tryd.prog 50 #[va, vb] w fun e w' => e = .returned (.bool true) ∧ Below w.heap.size w w' := by
  obtain ⟨A, m, ca, A', m', ca', rfl, r1, r2⟩ := ha
  obtain ⟨B, k, cb, B', k', cb', rfl, q1, q2⟩ := hb
  have CS := Lib.hid fun W (S : N2d w (.slice A m ca) (.slice A' m' ca') (.slice B k cb) (.slice B' k' cb') W) => sameSpans_any _ _ ss ss W (r2.up S.siz S.bel) (q2.up S.siz S.bel)
  rw [decide_eq_true rfl] at CS
  obtain ⟨A1, c1, e1, n1, hx⟩ := r1
  obtain ⟨rfl, rfl, rfl⟩ : A = A1 ∧ m = ts.length ∧ ca = c1 := by simpa using e1
  obtain ⟨B1, d1, e2, n2, hy⟩ := q1
  obtain ⟨rfl, rfl, rfl⟩ : B = B1 ∧ k = ts.length ∧ cb = d1 := by simpa using e2
  have HX := Lib.hid hx
  have HY := Lib.hid hy
  have S0 := Lib.hid (N2d.new (w := w) (v0 := .slice A ts.length ca) (v1 := .slice A' m' ca') (u0 := .slice B ts.length cb) (u1 := .slice B' k' cb') 25 25)
  have hne : ((ts.length : Int) != (ts.length : Int)) = false := by simp
  clear r2 q2 hx hy e1 e2
  go_enter Tryd.func50, Tryd.ntmps50
  go_wp2_with fail
  refine (CS.out _ S0.out).mono ?_
  rintro e w1 ⟨rfl, h1⟩
  have S := Lib.hid (S0.out.below h1)
  clear h1 S0
  obtain ⟨t0, t1, t2, t3, t4, _⟩ := S.out.out
  go_wp2_with fail
  clear t0 t1 t2 t3 t4
  go_loopw [6] (fun u wr => ∃ k : Nat, u = .int .i64 k ∧ k ≤ ts.length ∧ N2d w (.slice A ts.length ca) (.slice A' m' ca') (.slice B ts.length cb) (.slice B' k' cb') wr) (fun u _ => ts.length - (intOf u).toNat)
  case atStart => exact ⟨0, rfl, by omega, S.out⟩
  case round =>
    obtain ⟨k, rfl, hk, hS⟩ := hrel
    have S2 := Lib.hid hS
    obtain ⟨t0, t1, t2, t3, t4, _⟩ := hS.out
    clear hS
    by_cases hkn : k < ts.length
    · obtain ⟨b1, o1, rfl, l1, x1⟩ := HX.out (by omega)
      obtain ⟨b2, o2, rfl, l2, x2⟩ := HY.out (by omega)
      obtain ⟨⟨p, f, l⟩, ht⟩ : ∃ t, ts[k]? = some t := ⟨_, List.getElem?_eq_getElem hkn⟩
      obtain ⟨a0, a1, a2⟩ := x1 k p f l ht
      obtain ⟨b0, b1', b2'⟩ := x2 k p f l ht
      have c0 := (S2.out.bel.cell (p := ⟨b1, o1 + k * 3, none⟩) l1).trans a0
      have c1 := (S2.out.bel.cell (p := ⟨b1, o1 + k * 3 + 1, none⟩) l1).trans a1
      have c2 := (S2.out.bel.cell (p := ⟨b1, o1 + k * 3 + 2, none⟩) l1).trans a2
      have d0 := (S2.out.bel.cell (p := ⟨b2, o2 + k * 3, none⟩) l2).trans b0
      have d1 := (S2.out.bel.cell (p := ⟨b2, o2 + k * 3 + 1, none⟩) l2).trans b1'
      have d2 := (S2.out.bel.cell (p := ⟨b2, o2 + k * 3 + 2, none⟩) l2).trans b2'
      have hk0 : (k : Int) < (ts.length : Int) := by omega
      clear x1 x2 a0 a1 a2 b0 b1' b2' ht
      go_wp2_with fail
      go_quiet (fail)
      go_wp2_with fail
      go_roundw
      case rel => exact ⟨k + 1, by go_num, by omega, S2.out.below (below_drewN (Below.refl _ _) _)⟩
      case measure => show ts.length - ((k : Int) + 1).toNat < ts.length - (k : Int).toNat; omega
    · have hk0 : (ts.length : Int) ≤ (k : Int) := by omega
      go_wp2_with fail
      go_ret
      exact ⟨rfl, S2.out.bel⟩

def rowT3 (l : List T3) : List Value := l.flatMap fun x => [.int .i64 x.1, .int .i64 x.2.1, .int .i64 x.2.2]
theorem rowT3_len (l : List T3) : (rowT3 l).length = l.length * 3 := by
  induction l with
  | nil => rfl
  | cons x l ih =>
    have : rowT3 (x :: l) = [.int .i64 x.1, .int .i64 x.2.1, .int .i64 x.2.2] ++ rowT3 l := rfl
    rw [this, List.length_append, ih]; simp; omega
theorem rowT3_snoc (l : List T3) (x : T3) : rowT3 (l ++ [x]) = rowT3 l ++ [.int .i64 x.1, .int .i64 x.2.1, .int .i64 x.2.2] := by simp [rowT3, List.flatMap_append]
theorem rowT3_at : ∀ (l : List T3) (k : Nat) (p f m : Int), l[k]? = some (p, f, m) → (rowT3 l)[k * 3]? = some (.int .i64 p) ∧ (rowT3 l)[k * 3 + 1]? = some (.int .i64 f) ∧ (rowT3 l)[k * 3 + 2]? = some (.int .i64 m)
  | [], k, p, f, m, h => by cases h
  | x :: l, 0, p, f, m, h => by simp at h; subst h; exact ⟨rfl, rfl, rfl⟩
  | x :: l, k + 1, p, f, m, h => by
    have ih := rowT3_at l k p f m (by simpa using h)
    have e : rowT3 (x :: l) = .int .i64 x.1 :: .int .i64 x.2.1 :: .int .i64 x.2.2 :: rowT3 l := rfl
    rw [e, show (k + 1) * 3 = k * 3 + 3 by omega]
    exact ih
theorem infoTurn : (Tryd.prog.info? 27).map (fun i => (i.zero, i.size, i.bytes)) = some (some (.agg #[.int .i64 0, .int .i64 0, .int .i64 0]), 3, 24) := by kernel_rfl
/-- A list of turns in a row of its own. -/
def OwnT (base : Nat) (v : Value) (l : List T3) (W : World) : Prop := W.ownsRow base 27 3 v l.length (rowT3 l)
theorem OwnT.form {base : Nat} {v : Value} {l : List T3} {W : World} (h : OwnT base v l W) : ∃ A c, v = .slice A l.length c ∧ (0 < l.length → ∃ g, A = some ⟨g, 0, none⟩) := by
  rcases h.2 with ⟨rfl, h0⟩ | ⟨g, cap, cur, rfl, _⟩
  · exact ⟨none, 0, by rw [h0], fun h => by omega⟩
  · exact ⟨_, _, rfl, fun _ => ⟨_, rfl⟩⟩
theorem OwnT.grown {base : Nat} {v : Value} {l : List T3} {W W' : World} {bs : List Nat} (h : OwnT base v l W) (hg : GrownL bs W W') (hn : ∀ g, v.ownBlock = some g → g ∉ bs) : OwnT base v l W' := ownsRow_grownL h hg hn
theorem OwnT.lt {base : Nat} {v : Value} {l : List T3} {W : World} (h : OwnT base v l W) : ∀ g, v.ownBlock = some g → base ≤ g ∧ g < W.heap.size := World.ownsRow.lt h
theorem OwnT.rt {base : Nat} {v : Value} {l : List T3} {W : World} (h : OwnT base v l W) (hl : l.length ≤ 1000000000000) : RT W.heap.size v l W := by
  rcases h.2 with ⟨rfl, h0⟩ | ⟨g, cap, cur, rfl, hb, hgb, r⟩
  · exact ⟨none, 0, by rw [h0], hl, fun hp => by omega⟩
  · refine ⟨_, cap, rfl, hl, fun hp => ⟨g, 0, rfl, (Array.getElem?_eq_some_iff.1 hgb).1, fun k p f m hk => ?_⟩⟩
    have hkl := (List.getElem?_eq_some_iff.1 hk).1
    obtain ⟨c1, c2, c3⟩ := rowT3_at l k p f m hk
    rw [Nat.zero_add]
    exact ⟨(World.ownsRow.cellAt h (k * 3) (by omega)).trans c1, (World.ownsRow.cellAt h (k * 3 + 1) (by omega)).trans c2, (World.ownsRow.cellAt h (k * 3 + 2) (by omega)).trans c3⟩

/-- How long a run is, from t on: at most f more. -/
def longG (H : Int → Bool) (n : Int) : Nat → Nat → Nat
  | 0, t => t
  | f + 1, t => if H (n + t) = true then longG H n f (t + 1) else t
def longF (H : Int → Bool) (p : Nat) (n : Int) : Nat := longG H n (p - 1) 1
/-- The fewest turns, up to k. -/
def fewU (H : Int → Bool) (p : Nat) : Nat → List T3
  | 0 => []
  | k + 1 => if H k = true ∧ (p = 1 ∨ H ((k : Int) + p - 1) = false) then fewU H p k ++ [((p : Int), (k : Int), (longF H p k : Int))] else fewU H p k
theorem fewU_len (H : Int → Bool) (p : Nat) : ∀ k : Nat, (fewU H p k).length ≤ k
  | 0 => Nat.le_refl _
  | k + 1 => by
    have ih := fewU_len H p k
    unfold fewU
    split
    · simp; omega
    · omega
theorem longG_stop {H : Int → Bool} {n : Int} {f t : Nat} (h : H (n + t) = false) : longG H n f t = t := by
  cases f with
  | zero => rfl
  | succ f => simp [longG, h]
theorem longG_go {H : Int → Bool} {n : Int} {p t : Nat} (ht : t < p) (h : H (n + t) = true) : longG H n (p - t) t = longG H n (p - (t + 1)) (t + 1) := by
  obtain ⟨f, hf⟩ : ∃ f, p - t = f + 1 := ⟨p - t - 1, by omega⟩
  rw [hf, show p - (t + 1) = f by omega]
  simp [longG, h]
/-- What both functions say. -/
def FewIs (ts : List T3) (ss : List S2) (c : Int) (l : List T3) (d : Int) : Prop :=
  ∃ r e, PerIs ts ss c r e ∧ ((e ≠ 0 ∧ l = [] ∧ d = e) ∨ (e = 0 ∧ (fewU (setB (lotsOf ts ss)) r.toNat r.toNat).length ≤ 24 ∧ l = fewU (setB (lotsOf ts ss)) r.toNat r.toNat ∧ d = 0) ∨ (e = 0 ∧ 24 < (fewU (setB (lotsOf ts ss)) r.toNat r.toNat).length ∧ l = [] ∧ d = 2))
theorem FewIs.unique {ts : List T3} {ss : List S2} {c : Int} {l l' : List T3} {d d' : Int} (h : FewIs ts ss c l d) (h' : FewIs ts ss c l' d') : l = l' ∧ d = d' := by
  obtain ⟨r, e, hp, h⟩ := h
  obtain ⟨r', e', hp', h'⟩ := h'
  obtain ⟨rfl, rfl⟩ := hp.unique hp'
  rcases h with ⟨a, rfl, rfl⟩ | ⟨a, b, rfl, rfl⟩ | ⟨a, b, rfl, rfl⟩ <;> rcases h' with ⟨x, rfl, rfl⟩ | ⟨x, y, rfl, rfl⟩ | ⟨x, y, rfl, rfl⟩ <;> first | exact ⟨rfl, rfl⟩ | omega
end Go.Proofs.YtlhgpeelenelbaaDoor

/- Contract of Fewest. -/
namespace Go.Proofs.YtlhgpeelenelbaaDoor
open Go.RowKit

/-- The marks of a round, in memory. -/
def InC (g p : Nat) (H : Int → Bool) (W : World) : Prop := ∀ i : Nat, i < p → W.cell? ⟨g, i, none⟩ = some (.bool (H i))
theorem InC.grown {g p : Nat} {H : Int → Bool} {W W' : World} {bs : List Nat} (h : InC g p H W) (hg : GrownL bs W W') (hn : g ∉ bs) : InC g p H W' := fun i hi => hg.cell (h i hi) hn
theorem InC.of_rb {g n c p : Nat} {H : Int → Bool} {W : World} {L : Nat} (h : RB (.slice (some ⟨g, 0, none⟩) n c) (marks L H) W) (hp : p ≤ L) : InC g p H W := fun i hi => by
  obtain ⟨A, c', e, _, hx⟩ := h
  obtain ⟨rfl, -, -⟩ : some ⟨g, 0, none⟩ = A ∧ n = (marks L H).length ∧ c = c' := by simpa using e
  obtain ⟨b, o, e', hc⟩ := hx (by rw [marks_len]; omega)
  obtain ⟨rfl, rfl⟩ : g = b ∧ 0 = o := by simpa using e'
  have := hc i _ (marks_at L H i (by omega))
  rwa [Nat.zero_add] at this

/-- The first two blocks of Fewest: the set, the result. -/
def FwX (w : World) (v0 v1 : Value) (W : World) : Prop :=
  NSd w v0 v1 W ∧ W.heap[w.heap.size + 1]? = some (.cells #[.slice none 0 0, .slice none 0 0] 25 (0, 0)) ∧ w.heap.size + 2 ≤ W.heap.size
section
variable {w W W' : World} {v0 v1 : Value} {bs : List Nat}
theorem FwX.ns (h : FwX w v0 v1 W) : NSd w v0 v1 W := h.1
theorem FwX.bel (h : FwX w v0 v1 W) : Below w.heap.size w W := h.1.bel
theorem FwX.siz (h : FwX w v0 v1 W) : w.heap.size + 2 ≤ W.heap.size := h.2.2
theorem FwX.below (h : FwX w v0 v1 W) (hb : Below W.heap.size W W') : FwX w v0 v1 W' := ⟨h.1.below hb, (hb.block _ (by have := h.2.2; omega)).trans h.2.1, Nat.le_trans h.2.2 hb.size⟩
theorem FwX.grown (h : FwX w v0 v1 W) (hg : GrownL bs W W') (hn : ∀ b ∈ bs, w.heap.size + 2 ≤ b) : FwX w v0 v1 W' := by
  obtain ⟨h1, h2, h3⟩ := h
  obtain ⟨a0, a1, l1, hB⟩ := h1.out
  have n0 : w.heap.size ∉ bs := fun hm => by have := hn _ hm; omega
  have n1 : w.heap.size + 1 ∉ bs := fun hm => by have := hn _ hm; omega
  exact ⟨⟨hg.cell a0 n0, hg.cell a1 n0, by have := hg.size; omega, hB.trans (hg.below (fun b hb => by have := hn b hb; omega) (by omega))⟩, (hg.block _ (by omega) n1).trans h2, Nat.le_trans h3 hg.size⟩
theorem FwX.res (h : FwX w v0 v1 W) : W.cell? ⟨w.heap.size + 1, 0, none⟩ = some (.slice none 0 0) ∧ W.cell? ⟨w.heap.size + 1, 1, none⟩ = some (.slice none 0 0) ∧ W.frozen? ⟨w.heap.size + 1, 0, none⟩ = false ∧ W.frozen? ⟨w.heap.size + 1, 1, none⟩ = false :=
  ⟨by simp [World.cell?, h.2.1], by simp [World.cell?, h.2.1], by simp [World.frozen?, h.2.1], by simp [World.frozen?, h.2.1]⟩
theorem FwX.setres (h : FwX w v0 v1 W) (x y : Value) : ((W.setCell ⟨w.heap.size + 1, 0, none⟩ x).setCell ⟨w.heap.size + 1, 1, none⟩ y).cell? ⟨w.heap.size + 1, 0, none⟩ = some x ∧ ((W.setCell ⟨w.heap.size + 1, 0, none⟩ x).setCell ⟨w.heap.size + 1, 1, none⟩ y).cell? ⟨w.heap.size + 1, 1, none⟩ = some y := by
  obtain ⟨r0, r1, _, _⟩ := h.res
  have t : Two (w.heap.size + 1) (.slice none 0 0) (.slice none 0 0) W := ⟨r0, r1, by have := h.2.2; omega⟩
  have t' := t.set x y
  exact ⟨t'.1, t'.2.1⟩
theorem FwX.setbel (h : FwX w v0 v1 W) (x y : Value) : Below w.heap.size w ((W.setCell ⟨w.heap.size + 1, 0, none⟩ x).setCell ⟨w.heap.size + 1, 1, none⟩ y) :=
  (h.bel.setCell (p := ⟨w.heap.size + 1, 0, none⟩) (by simp) _).setCell (p := ⟨w.heap.size + 1, 1, none⟩) (by simp) _
theorem FwX.new (w : World) (v0 v1 : Value) : FwX w v0 v1 ((w.alloc (.cells #[v0, v1] 25)).alloc (.cells #[.slice none 0 0, .slice none 0 0] 25)) := by
  refine ⟨(NSd.new _).alloc _, ?_, by simp⟩
  have := World.alloc_heap_new (w.alloc (.cells #[v0, v1] 25)) (.cells #[.slice none 0 0, .slice none 0 0] 25)
  simpa using this
end
theorem rt_nil (w : World) (B : Nat) : RT B (.slice none 0 0) [] w := ⟨none, 0, rfl, by simp, fun h => by simp at h⟩

def FewPost (ts : List T3) (ss : List S2) (c : Int) (w : World) (e : Ending) (w' : World) : Prop :=
  ∃ v l d, e = .returned (.tuple #[.agg #[v, .slice none 0 0], .int .i64 d]) ∧ RT w'.heap.size v l w' ∧ Below w.heap.size w w' ∧ FewIs ts ss c l d

set_option maxHeartbeats 4000000 in
set_option maxRecDepth 100000 in
theorem fewest_err (A : Option Addr) (m ca : Nat) (A' : Option Addr) (m' ca' : Nat) (ts : List T3) (ss : List S2) (c d : Int) (w : World) (hp : PerIs ts ss c 0 d) (h0 : d ≠ 0)
    (hC : ∀ W, NSd w (.slice A m ca) (.slice A' m' ca') W → Calls Tryd.prog 103 #[.agg #[.slice A m ca, .slice A' m' ca']] W fun e w' => e = .returned (.tuple #[.slice none 0 0, .int .i64 d]) ∧ Below W.heap.size W w') :
    Calls Tryd.prog 48 #[.agg #[.slice A m ca, .slice A' m' ca']] w (FewPost ts ss c w) := by
  have C := Lib.hid hC
  have HP : Hid (FewIs ts ss c [] d) := Lib.hid ⟨0, d, hp, .inl ⟨h0, rfl, rfl⟩⟩
  have S0 := Lib.hid (FwX.new w (.slice A m ca) (.slice A' m' ca'))
  have hb0 : (d != 0) = true := by rw [bne_iff_ne]; exact h0
  clear hC hp h0
  go_enter Tryd.func48, Tryd.ntmps48
  go_wp2_with fail
  refine (C.out _ S0.out.ns).mono ?_
  rintro e w1 ⟨rfl, h1⟩
  have S := Lib.hid (S0.out.below h1)
  clear h1 S0
  obtain ⟨x0, x1, f0, f1⟩ := S.out.res
  go_wp2_with fail
  refine bodyPost_ret (v := .tuple #[.agg #[.slice none 0 0, .slice none 0 0], .int .i64 d]) ?_ rfl ?_
  · have q := S.out.setres (.slice none 0 0) (.slice none 0 0)
    simp [results, Tryd.results48, go_sem, q.1, q.2]
  · exact ⟨_, [], d, rfl, rt_nil _ _, S.out.setbel _ _, HP.out⟩

/-- What is known where around gives its marks. -/
structure Round (ts : List T3) (p : Nat) : Prop where
  ne : ts ≠ []
  per : PerH (setB (lotsOf ts [])) p
  p1 : 1 ≤ p
  p2 : p ≤ 40320
  is : PerIs ts [] 0 p 0
/-- A turn's minute is there. -/
theorem set_some {ts : List T3} (hok : AllOk ts []) (h : ts ≠ []) : ∃ n, setB (lotsOf ts []) n = true := by
  rcases ts with _ | ⟨⟨p, f, l⟩, ts⟩
  · exact absurd rfl h
  · obtain ⟨a1, a2, a3, a4, a5, a6⟩ := hok.1 _ (List.mem_cons_self ..)
    refine ⟨f, (setB_iff _ _).2 ⟨lotOfT (p, f, l), by simp [lotsOf], ?_⟩⟩
    show (f - f) % p < l
    simp only at a1 a2 a3 a4 a5 a6
    rw [Int.sub_self, Int.zero_emod]
    omega

set_option maxHeartbeats 4000000 in
set_option maxRecDepth 100000 in
theorem fewest_one (A : Option Addr) (m ca : Nat) (A' : Option Addr) (m' ca' : Nat) (ts : List T3) (w : World) (hok : AllOk ts []) (hr : Round ts 1)
    (hC : ∀ W, NSd w (.slice A m ca) (.slice A' m' ca') W → Calls Tryd.prog 103 #[.agg #[.slice A m ca, .slice A' m' ca']] W fun e w' => ∃ g cc, e = .returned (.tuple #[.slice (some ⟨g, 0, none⟩) 1 cc, .int .i64 0]) ∧ Below W.heap.size W w') :
    Calls Tryd.prog 48 #[.agg #[.slice A m ca, .slice A' m' ca']] w (FewPost ts [] 0 w) := by
  have C := Lib.hid hC
  have HP : Hid (FewIs ts [] 0 [(1, 0, 1)] 0) := Lib.hid (by
    obtain ⟨n, hn⟩ := set_some hok hr.ne
    have h0 : setB (lotsOf ts []) 0 = true := by
      have := hr.per.mod n
      rw [show n % ((1 : Nat) : Int) = 0 by omega] at this
      rw [this, hn]
    have e : fewU (setB (lotsOf ts [])) 1 1 = [(1, 0, 1)] := by
      simp [fewU, h0, longF, longG]
    refine ⟨((1 : Nat) : Int), 0, hr.is, .inr (.inl ⟨rfl, ?_, ?_, rfl⟩)⟩
    · rw [Int.toNat_natCast, e]; decide
    · rw [Int.toNat_natCast, e])
  have S0 := Lib.hid (FwX.new w (.slice A m ca) (.slice A' m' ca'))
  clear hC hr hok
  go_enter Tryd.func48, Tryd.ntmps48
  go_wp2_with fail
  refine (C.out _ S0.out.ns).mono ?_
  rintro e w1 ⟨g, cc, rfl, h1⟩
  have S := Lib.hid (S0.out.below h1)
  clear h1 S0
  obtain ⟨x0, x1, f0, f1⟩ := S.out.res
  have S2 := Lib.hid (S.out.below ((Below.refl _ _).alloc (Nat.le_refl _) (.cells #[.int .i64 1, .int .i64 0, .int .i64 1] 27)))
  obtain ⟨y0, y1, g0, g1⟩ := S2.out.res
  go_wp2_with fail
  refine bodyPost_ret (v := .tuple #[.agg #[.slice (some ⟨w1.heap.size, 0, none⟩) 1 1, .slice none 0 0], .int .i64 0]) ?_ rfl ?_
  · have q := S2.out.setres (.slice (some ⟨w1.heap.size, 0, none⟩) 1 1) (.slice none 0 0)
    simp [results, Tryd.results48, go_sem, q.1, q.2]
  · have hz := S.out.siz
    refine ⟨_, [(1, 0, 1)], 0, rfl, ⟨_, 1, rfl, by simp, fun _ => ⟨w1.heap.size, 0, rfl, by simp, fun k p f l hk => ?_⟩⟩, S2.out.setbel _ _, HP.out⟩
    rcases k with _ | k
    · simp at hk
      obtain ⟨rfl, rfl, rfl⟩ := hk
      have gg := (GrownL.set (bs := [w.heap.size + 1]) (w1.alloc (.cells #[.int .i64 1, .int .i64 0, .int .i64 1] 27)) ⟨w.heap.size + 1, 0, none⟩ (.slice (some ⟨w1.heap.size, 0, none⟩) 1 1) (by simp)).trans (GrownL.set (bs := [w.heap.size + 1]) _ ⟨w.heap.size + 1, 1, none⟩ (.slice none 0 0) (by simp))
      exact ⟨gg.cell (p := ⟨w1.heap.size, 0, none⟩) (by simp [go_sem]) (by simp; omega), gg.cell (p := ⟨w1.heap.size, 1, none⟩) (by simp [go_sem]) (by simp; omega), gg.cell (p := ⟨w1.heap.size, 2, none⟩) (by simp [go_sem]) (by simp; omega)⟩
    · simp at hk
end Go.Proofs.YtlhgpeelenelbaaDoor

/- Contract of Fewest, where a round is longer than one; and whole. -/
namespace Go.Proofs.YtlhgpeelenelbaaDoor
open Go.RowKit

/-- What Fewest keeps between two minutes. -/
def FwL (w : World) (v0 v1 : Value) (base g p : Nat) (H : Int → Bool) (v : Value) (l : List T3) (W : World) : Prop :=
  OwnT base v l W ∧ FwX w v0 v1 W ∧ InC g p H W ∧ base ≤ W.heap.size
theorem FwL.own {w W : World} {v0 v1 v : Value} {base g p : Nat} {H : Int → Bool} {l : List T3} (h : FwL w v0 v1 base g p H v l W) : OwnT base v l W := h.1
theorem FwL.fw {w W : World} {v0 v1 v : Value} {base g p : Nat} {H : Int → Bool} {l : List T3} (h : FwL w v0 v1 base g p H v l W) : FwX w v0 v1 W := h.2.1
theorem FwL.inc {w W : World} {v0 v1 v : Value} {base g p : Nat} {H : Int → Bool} {l : List T3} (h : FwL w v0 v1 base g p H v l W) : InC g p H W := h.2.2.1
theorem FwL.siz {w W : World} {v0 v1 v : Value} {base g p : Nat} {H : Int → Bool} {l : List T3} (h : FwL w v0 v1 base g p H v l W) : base ≤ W.heap.size := h.2.2.2
theorem FwL.cast {w W : World} {v0 v1 v : Value} {base g p : Nat} {H : Int → Bool} {l l' : List T3} (h : FwL w v0 v1 base g p H v l W) (e : l' = l) : FwL w v0 v1 base g p H v l' W := e ▸ h
theorem GrownL.of_by' {w w' : World} {v : Value} (h : w.grownBy w' v.ownBlock) : GrownL v.ownBlock.toList w w' :=
  ⟨h.os, h.tape, h.output, h.size, fun k hk hn => h.block k hk (fun e => hn (by simp [← e]))⟩

set_option maxHeartbeats 16000000 in
set_option maxRecDepth 1000000 in
theorem fewest_many (A : Option Addr) (m ca : Nat) (A' : Option Addr) (m' ca' : Nat) (ts : List T3) (p : Nat) (w : World) (hr : Round ts p) (p2 : 2 ≤ p)
    (hC : ∀ W, NSd w (.slice A m ca) (.slice A' m' ca') W → Calls Tryd.prog 103 #[.agg #[.slice A m ca, .slice A' m' ca']] W fun e w' => ∃ g cc, e = .returned (.tuple #[.slice (some ⟨g, 0, none⟩) p cc, .int .i64 0]) ∧ W.heap.size ≤ g ∧ g < w'.heap.size ∧ InC g p (setB (lotsOf ts [])) w' ∧ Below W.heap.size W w') :
    Calls Tryd.prog 48 #[.agg #[.slice A m ca, .slice A' m' ca']] w (FewPost ts [] 0 w) := by
  obtain ⟨i0, hi, hz0, hz1, hz2⟩ := info_parts infoTurn
  have C := Lib.hid hC
  have HIS := Lib.hid hr.is
  have HPER := Lib.hid hr.per
  have hp3 := hr.p2
  generalize hH : setB (lotsOf ts []) = H at *
  have HH := Lib.hid hH
  have S0 := Lib.hid (FwX.new w (.slice A m ca) (.slice A' m' ca'))
  have hpz : ((p : Int) == 1) = false := beq_eq_false_iff_ne.2 (by omega)
  have hp0 : ¬ (p : Int) = 0 := by omega
  clear hC hr hH
  go_enter Tryd.func48, Tryd.ntmps48
  go_wp2_with fail
  refine (C.out _ S0.out.ns).mono ?_
  rintro e w1 ⟨g, cc, rfl, hg1, hg2, hin, h1⟩
  have S1 := Lib.hid (S0.out.below h1)
  have hg3 : w.heap.size + 2 ≤ g := by simp at hg1; omega
  obtain ⟨base, hbase⟩ : ∃ b, b = w1.heap.size := ⟨_, rfl⟩
  have HL0 : Hid (FwL w (.slice A m ca) (.slice A' m' ca') base g p H (.slice none 0 0) (fewU H p 0) w1) := Lib.hid ⟨World.ownsRow_nil _ _ _ _, S1.out, hin, by omega⟩
  have hgb : g < base := by omega
  clear h1 S0 hin hg1 hg2 S1 hbase
  go_wp2_with fail
  go_loopw [7, 27] (fun v u wr => ∃ k : Nat, u = .int .i64 k ∧ k ≤ p ∧ FwL w (.slice A m ca) (.slice A' m' ca') base g p H v (fewU H p k) wr) (fun _ u _ => p - (intOf u).toNat)
  case atStart => exact ⟨0, rfl, by omega, HL0.out⟩
  case round =>
    obtain ⟨k, rfl, hk, hS⟩ := hrel
    have S := Lib.hid hS
    clear hS
    by_cases hkp : k < p
    · have hk0 : (k : Int) < (p : Int) := by omega
      have c0 := S.out.inc k hkp
      obtain ⟨j, hj⟩ : ∃ j : Nat, ((k : Int) + p - 1) % p = j := ⟨(((k : Int) + p - 1) % p).toNat, by have := Int.emod_nonneg ((k : Int) + p - 1) hp0; omega⟩
      have hj1 : j < p := by have := Int.emod_lt_of_pos ((k : Int) + p - 1) (show (0 : Int) < p by omega); omega
      have c1 := S.out.inc j hj1
      have hHj : H (j : Int) = H ((k : Int) + p - 1) := by rw [← hj]; exact HPER.out.mod _
      have W1 : IntKind.i64.wrap ((k : Int) + p) = (k : Int) + p := IntWalk.i64_in _ (by omega)
      have W2 : IntKind.i64.wrap ((k : Int) + p - 1) = (k : Int) + p - 1 := IntWalk.i64_in _ (by omega)
      have W3 : ((k : Int) + p - 1).tmod p = (j : Int) := by rw [← hj]; exact Int.tmod_eq_emod_of_nonneg (by omega)
      have W4 : IntKind.i64.wrap (j : Int) = (j : Int) := IntWalk.i64_in _ (by omega)
      have hj2 : (j : Int) < (p : Int) := by omega
      have HF : Hid (fewU H p (k + 1) = if H k = true ∧ H ((k : Int) + p - 1) = false then fewU H p k ++ [((p : Int), (k : Int), (longF H p k : Int))] else fewU H p k) := Lib.hid (by
        show (if _ then _ else _) = _
        have : ¬ p = 1 := by omega
        simp [this])
      rw [hHj] at c1
      obtain ⟨x, hx⟩ : ∃ x, H (k : Int) = x := ⟨_, rfl⟩
      obtain ⟨y, hy⟩ : ∃ y, H ((k : Int) + p - 1) = y := ⟨_, rfl⟩
      rw [hx] at c0
      rw [hy] at c1
      have HX := Lib.hid hx
      have HY := Lib.hid hy
      clear hx hy hHj hj
      cases x
      · have K := Lib.hid (S.out.cast (l' := fewU H p (k + 1)) (by rw [HF.out, if_neg (by rw [HX.out]; simp)]))
        go_wp2_with fail
        go_roundw
        case rel => exact ⟨k + 1, by go_num, by omega, K.out⟩
        case measure => show p - ((k : Int) + 1).toNat < p - (k : Int).toNat; omega
      · cases y
        · obtain ⟨Av, cv, rfl, -⟩ := S.out.own.form
          obtain ⟨n, hn⟩ : ∃ n, (fewU H p k).length = n := ⟨_, rfl⟩
          have hnp : n ≤ 40320 := by have := fewU_len H p k; omega
          have HN := Lib.hid hn
          rw [hn]
          clear hn
          go_wp2_with fail
          go_loopw [9] (fun u wi => ∃ t : Nat, u = .int .i64 t ∧ 1 ≤ t ∧ t ≤ p - 1 ∧ longG H k (p - t) t = longF H p k ∧ wi = wr) (fun u _ => p - (intOf u).toNat)
          case atStart => exact ⟨1, rfl, by omega, by omega, rfl, rfl⟩
          case round =>
            obtain ⟨t, rfl, t1, t2, htl, rfl⟩ := hrel
            have HTL := Lib.hid htl
            obtain ⟨j3, hj3⟩ : ∃ j : Nat, ((k : Int) + t) % p = j := ⟨(((k : Int) + t) % p).toNat, by have := Int.emod_nonneg ((k : Int) + t) hp0; omega⟩
            have hj4 : j3 < p := by have := Int.emod_lt_of_pos ((k : Int) + t) (show (0 : Int) < p by omega); omega
            have d1 := S.out.inc j3 hj4
            have hHj3 : H (j3 : Int) = H ((k : Int) + t) := by rw [← hj3]; exact HPER.out.mod _
            have V1 : IntKind.i64.wrap ((k : Int) + t) = (k : Int) + t := IntWalk.i64_in _ (by omega)
            have V3 : ((k : Int) + t).tmod p = (j3 : Int) := by rw [← hj3]; exact Int.tmod_eq_emod_of_nonneg (by omega)
            have V4 : IntKind.i64.wrap (j3 : Int) = (j3 : Int) := IntWalk.i64_in _ (by omega)
            have hj5 : (j3 : Int) < (p : Int) := by omega
            have V5 : IntKind.i64.wrap ((t : Int) + 1) = (t : Int) + 1 := IntWalk.i64_in _ (by omega)
            rw [hHj3] at d1
            obtain ⟨z, hz⟩ : ∃ z, H ((k : Int) + t) = z := ⟨_, rfl⟩
            rw [hz] at d1
            have HZ := Lib.hid hz
            clear hz hHj3 hj3 htl
            cases z
            · have HE : Hid (longF H p k = t) := Lib.hid (by rw [← HTL.out]; exact longG_stop HZ.out)
              have HO : Hid (wr.ownsRow base 27 3 (.slice Av n cv) n (rowT3 (fewU H p k))) := Lib.hid (by have := S.out.own; unfold OwnT at this; rwa [HN.out] at this)
              have hbs := S.out.siz
              go_wp2_with (at_builtin; refine wpList_append_own _ rfl _ _ 22 rfl base 27 i0 (.agg #[.int .i64 0, .int .i64 0, .int .i64 0]) 3 24 Tryd.underlying22 hi hz0 hz1 hz2 rfl (by decide) _ n _ rfl (HO.out.alloc _) ⟨wr.heap.size, 0, none⟩ 1 1 [.int .i64 p, .int .i64 k, .int .i64 t] rfl rfl ?c1 ?c2 ?c3 ?c4 ?c5 ?_)
              case c1 =>
                intro j u hj
                match j, hj with
                | 0, hj => simp at hj; subst hj; simp [go_sem, Addr.add]
                | 1, hj => simp at hj; subst hj; simp [go_sem, Addr.add]
                | 2, hj => simp at hj; subst hj; simp [go_sem, Addr.add]
                | j + 3, hj => simp at hj
              case c2 => intro u hu; simp at hu; rcases hu with rfl | rfl | rfl <;> rfl
              case c3 => unfold maxLen; omega
              case c4 => omega
              case c5 => simp <;> omega
              intro v' w4 hown' hgrow _
              have hgl := GrownL.of_by' hgrow
              have hga : GrownL (Value.ownBlock (.slice Av n cv)).toList wr w4 := (GrownL.of_below ((Below.refl _ _).alloc (Nat.le_refl _) _)).trans hgl
              have hlt := fun q (hq : q ∈ (Value.ownBlock (.slice Av n cv)).toList) => HO.out.lt q (by simpa using hq)
              have hz4 := hga.size
              have R : Hid (FwL w (.slice A m ca) (.slice A' m' ca') base g p H v' (fewU H p (k + 1)) w4) := Lib.hid (by
                refine ⟨?_, S.out.fw.grown hga (fun q hq => by have := hlt q hq; omega), S.out.inc.grown hga (fun hm => by have := hlt g hm; omega), by omega⟩
                rw [HF.out, if_pos ⟨HX.out, HY.out⟩, HE.out]
                unfold OwnT
                rw [rowT3_snoc, List.length_append, HN.out]
                exact hown')
              clear hown' hgrow hgl hga hlt
              go_wp2_with fail
              go_roundw
              case rel => exact ⟨k + 1, by go_num, by omega, R.out⟩
              case measure => show p - ((k : Int) + 1).toNat < p - (k : Int).toNat; omega
            · have ht3 : t ≠ p - 1 := fun e => by
                have h1 := HZ.out
                have h2 := HY.out
                rw [show (k : Int) + p - 1 = (k : Int) + (t : Int) by omega] at h2
                rw [h1] at h2
                cases h2
              have HT2 : Hid (longG H k (p - (t + 1)) (t + 1) = longF H p k) := Lib.hid (by rw [← longG_go (by omega) HZ.out]; exact HTL.out)
              go_wp2_with fail
              go_roundw
              case rel => exact ⟨t + 1, by go_num, by omega, by omega, HT2.out, by first | rfl | trivial⟩
              case measure => show p - ((t : Int) + 1).toNat < p - (t : Int).toNat; omega
        · have K := Lib.hid (S.out.cast (l' := fewU H p (k + 1)) (by rw [HF.out, if_neg (by rw [HY.out]; simp)]))
          go_wp2_with fail
          go_roundw
          case rel => exact ⟨k + 1, by go_num, by omega, K.out⟩
          case measure => show p - ((k : Int) + 1).toNat < p - (k : Int).toNat; omega
    · obtain rfl : k = p := by omega
      obtain ⟨Av, cv, rfl, -⟩ := S.out.own.form
      obtain ⟨x0, x1, f0, f1⟩ := S.out.fw.res
      obtain ⟨n, hn⟩ : ∃ n, (fewU H k k).length = n := ⟨_, rfl⟩
      have HN := Lib.hid hn
      rw [hn]
      have hkk : (k : Int) ≤ (k : Int) := Int.le_refl _
      clear hn
      by_cases hbig : 24 < n
      · have hb : decide ((24 : Int) < (n : Int)) = true := decide_eq_true (by omega)
        have HB := Lib.hid hbig
        clear hbig
        go_wp2_with fail
        refine bodyPost_ret (v := .tuple #[.agg #[.slice none 0 0, .slice none 0 0], .int .i64 2]) ?_ rfl ?_
        · have q := S.out.fw.setres (.slice none 0 0) (.slice none 0 0)
          simp [results, Tryd.results48, go_sem, q.1, q.2]
        · exact ⟨_, [], 2, rfl, rt_nil _ _, S.out.fw.setbel _ _, _, 0, HIS.out, .inr (.inr ⟨rfl, by rw [Int.toNat_natCast, HH.out, HN.out]; exact HB.out, rfl, rfl⟩)⟩
      · have hb : decide ((24 : Int) < (n : Int)) = false := decide_eq_false (by omega)
        have HB := Lib.hid hbig
        clear hbig
        go_wp2_with fail
        refine bodyPost_ret (v := .tuple #[.agg #[.slice Av n cv, .slice none 0 0], .int .i64 0]) ?_ rfl ?_
        · have q := S.out.fw.setres (.slice Av n cv) (.slice none 0 0)
          simp [results, Tryd.results48, go_sem, q.1, q.2]
        · have hs2 := S.out.fw.siz
          have gg := (GrownL.set (bs := [w.heap.size + 1]) wr ⟨w.heap.size + 1, 0, none⟩ (.slice Av n cv) (by simp)).trans (GrownL.set (bs := [w.heap.size + 1]) _ ⟨w.heap.size + 1, 1, none⟩ (.slice none 0 0) (by simp))
          have ho := S.out.own.grown gg (fun q hq hm => by have := S.out.own.lt q hq; simp at hm; omega)
          rw [HN.out] at ho
          refine ⟨.slice Av n cv, fewU H k k, 0, rfl, ho.rt (by have := HB.out; have := HN.out; omega), S.out.fw.setbel _ _, _, 0, HIS.out, .inr (.inl ⟨rfl, ?_, ?_, rfl⟩)⟩
          · rw [Int.toNat_natCast, HH.out, HN.out]; have := HB.out; omega
          · rw [Int.toNat_natCast, HH.out]

/-- The facts of a round: its least period, and what is known of it. -/
theorem round_of {ts : List T3} (hc : CheckIs ts [] 0) (ht : ts ≠ []) (ho : ¬ Over ts) : ∃ p : Nat, Round ts p ∧ 1 ≤ p ∧ p ≤ (roundOf ts).length ∧ RepB (roundOf ts) p ∧ (∀ q, 1 ≤ q → q < p → ¬ RepB (roundOf ts) q) ∧ (roundOf ts).length ≤ 40320 := by
  obtain ⟨k1, k2, k3⟩ := checkIs_ok hc
  have l1 := lcmS_pos _ ts rfl (fun t q => (k3.1 t q).1)
  have l2 : lcmS ts ≤ 40320 := by
    by_cases c : lcmS ts ≤ 40320
    · exact c
    · exact absurd ⟨ts.length, Nat.le_refl _, by rw [List.take_length]; omega⟩ ho
  have hl : (roundOf ts).length = (lcmS ts).toNat := by unfold roundOf; rw [marks_len]
  obtain ⟨p, p1, p2, p3, p4⟩ := least_one (RepB (roundOf ts)) (roundOf ts).length (by omega) (repB_full _)
  have hP : PerH (setB (lotsOf ts [])) ((lcmS ts).toNat : Nat) := fun n => by
    have := set_again k3 n 1
    rw [Int.mul_one] at this
    rwa [show (((lcmS ts).toNat : Nat) : Int) = lcmS ts by omega]
  exact ⟨p, ⟨ht, ((repB_iff hP p1 (by omega)).1 p3).2, p1, by omega, .inr (.inr ⟨rfl, rfl, ht, ho, l1, l2, rfl, p, rfl, p1, p2, p3, p4⟩)⟩, p1, p2, p3, p4, by omega⟩

theorem fewest_any (v : Value) (ts : List T3) (ss : List S2) (c : Int) (w : World) (h : RM w.heap.size v ts ss w) (hc : CheckIs ts ss c) :
    Calls Tryd.prog 48 #[v] w (FewPost ts ss c w) := by
  obtain ⟨A, m, ca, A', m', ca', rfl, -, -⟩ := id h
  by_cases h0 : (c ≠ 0 ∧ c = c) ∨ (c = 0 ∧ (ss ≠ [] ∨ ts = []))
  · have hd : ∃ d : Int, d ≠ 0 ∧ ((c ≠ 0 ∧ d = c) ∨ (c = 0 ∧ (ss ≠ [] ∨ ts = []) ∧ d = 1)) := by
      rcases h0 with ⟨h0, _⟩ | ⟨h0, h1⟩
      · exact ⟨c, h0, .inl ⟨h0, rfl⟩⟩
      · exact ⟨1, by decide, .inr ⟨h0, h1, rfl⟩⟩
    obtain ⟨d, d0, hd⟩ := hd
    exact fewest_err A m ca A' m' ca' ts ss c d w (.inl ⟨hd, rfl⟩) d0 fun W S => around_err _ ts ss c d W (h.up S.siz S.bel) hc hd
  · have hc0 : c = 0 := Classical.byContradiction fun h => h0 (.inl ⟨h, rfl⟩)
    subst hc0
    have hs : ss = [] := Classical.byContradiction fun h => h0 (.inr ⟨rfl, .inl h⟩)
    subst hs
    have ht : ts ≠ [] := fun h => h0 (.inr ⟨rfl, .inr h⟩)
    have hl := List.length_pos_iff.2 ht
    by_cases ho : Over ts
    · refine fewest_err A m ca A' m' ca' ts [] 0 2 w (.inr (.inl ⟨rfl, rfl, ht, ho, rfl, rfl⟩)) (by decide) fun W S => (around_main _ ts W (h.up S.siz S.bel) hc hl).mono ?_
      rintro e w' (⟨_, rfl, hb⟩ | ⟨hn, _⟩)
      · exact ⟨rfl, hb⟩
      · exact absurd ho hn
    · obtain ⟨p, hr, p1, p2, p3, p4, p5⟩ := round_of hc ht ho
      have around : ∀ W, NSd w (.slice A m ca) (.slice A' m' ca') W → Calls Tryd.prog 103 #[.agg #[.slice A m ca, .slice A' m' ca']] W fun e w' => ∃ g cc, e = .returned (.tuple #[.slice (some ⟨g, 0, none⟩) p cc, .int .i64 0]) ∧ W.heap.size ≤ g ∧ g < w'.heap.size ∧ InC g p (setB (lotsOf ts [])) w' ∧ Below W.heap.size W w' := fun W S => (around_main _ ts W (h.up S.siz S.bel) hc hl).mono (by
        rintro e w' (⟨hn, _⟩ | ⟨_, _, _, g, p', q1, q2, q3, q4, rfl, hg, hrb, hb⟩)
        · exact absurd hn ho
        · have e : p' = p := by
            rcases Nat.lt_trichotomy p' p with h | h | h
            · exact absurd q3 (p4 p' q1 h)
            · exact h
            · exact absurd p3 (q4 p p1 h)
          subst e
          have hin : InC g p' (setB (lotsOf ts [])) w' := InC.of_rb (L := (lcmS ts).toNat) hrb (by have : (roundOf ts).length = (lcmS ts).toNat := by { unfold roundOf; rw [marks_len] }; omega)
          exact ⟨g, _, rfl, hg, World.block_lt_of_cell? _ _ (hin 0 (by omega)), hin, hb⟩)
      by_cases h1 : p = 1
      · subst h1
        exact fewest_one A m ca A' m' ca' ts w (checkIs_ok hc).2.2 hr fun W S => (around W S).mono fun e w' ⟨g, cc, he, _, _, _, hb⟩ => ⟨g, cc, he, hb⟩
      · exact fewest_many A m ca A' m' ca' ts p w hr (by omega) around
end Go.Proofs.YtlhgpeelenelbaaDoor

/- Contract of the specification's Fewest. -/
namespace Go.Proofs.YtlhgpeelenelbaaDoor
open Go.RowKit

/-- What the specification's Fewest keeps: the set, the result, and the set that it makes. -/
structure RfL (w : World) (v0 v1 : Value) (n1 : Nat) (v : Value) (l : List T3) (W : World) : Prop where
  own : OwnT (n1 + 2) v l W
  ns : NSd w v0 v1 W
  res : W.heap[w.heap.size + 1]? = some (.cells #[.slice none 0 0, .slice none 0 0, .int .i64 0] 68 (0, 0))
  c0 : W.cell? ⟨n1 + 1, 0, none⟩ = some v
  c1 : W.cell? ⟨n1 + 1, 1, none⟩ = some (.slice none 0 0)
  c2 : W.cell? ⟨n1 + 1, 2, none⟩ = some (.int .i64 0)
  f0 : W.frozen? ⟨n1 + 1, 0, none⟩ = false
  le : w.heap.size + 2 ≤ n1
  siz : n1 + 2 ≤ W.heap.size
section
variable {w W W' : World} {v0 v1 v : Value} {n1 : Nat} {l l' : List T3} {bs : List Nat}
theorem RfL.cast (h : RfL w v0 v1 n1 v l W) (e : l' = l) : RfL w v0 v1 n1 v l' W := e ▸ h
theorem RfL.below (h : RfL w v0 v1 n1 v l W) (hb : Below W.heap.size W W') : RfL w v0 v1 n1 v l W' := by
  have hs := h.siz
  have hle := h.le
  have lt : ∀ o, (⟨n1 + 1, o, none⟩ : Addr).block < W.heap.size := fun o => by show n1 + 1 < _; omega
  exact ⟨h.own.grown (GrownL.of_below (bs := []) hb) (by simp), h.ns.below hb, (hb.block _ (by omega)).trans h.res, (hb.cell (lt 0)).trans h.c0, (hb.cell (lt 1)).trans h.c1, (hb.cell (lt 2)).trans h.c2, (hb.frozen (lt 0)).trans h.f0, hle, Nat.le_trans hs hb.size⟩
theorem RfL.rres (h : RfL w v0 v1 n1 v l W) : W.cell? ⟨w.heap.size + 1, 0, none⟩ = some (.slice none 0 0) ∧ W.cell? ⟨w.heap.size + 1, 1, none⟩ = some (.slice none 0 0) ∧ W.cell? ⟨w.heap.size + 1, 2, none⟩ = some (.int .i64 0) ∧ W.frozen? ⟨w.heap.size + 1, 0, none⟩ = false ∧ W.frozen? ⟨w.heap.size + 1, 1, none⟩ = false ∧ W.frozen? ⟨w.heap.size + 1, 2, none⟩ = false :=
  ⟨by simp [World.cell?, h.res], by simp [World.cell?, h.res], by simp [World.cell?, h.res], by simp [World.frozen?, h.res], by simp [World.frozen?, h.res], by simp [World.frozen?, h.res]⟩
end
/-- Three cells of a block that are written. -/
theorem set3 {W : World} {b : Nat} {x y z : Value} (h0 : W.cell? ⟨b, 0, none⟩ = some x) (h1 : W.cell? ⟨b, 1, none⟩ = some y) (h2 : W.cell? ⟨b, 2, none⟩ = some z) (x' y' z' : Value) :
    (((W.setCell ⟨b, 0, none⟩ x').setCell ⟨b, 1, none⟩ y').setCell ⟨b, 2, none⟩ z').cell? ⟨b, 0, none⟩ = some x' ∧ (((W.setCell ⟨b, 0, none⟩ x').setCell ⟨b, 1, none⟩ y').setCell ⟨b, 2, none⟩ z').cell? ⟨b, 1, none⟩ = some y' ∧ (((W.setCell ⟨b, 0, none⟩ x').setCell ⟨b, 1, none⟩ y').setCell ⟨b, 2, none⟩ z').cell? ⟨b, 2, none⟩ = some z' := by
  have a0 := World.cell?_setCell_same' W ⟨b, 0, none⟩ x' (by rw [h0]; rfl)
  have a1 : (W.setCell ⟨b, 0, none⟩ x').cell? ⟨b, 1, none⟩ = some y := by rw [World.cell?_setCell_other _ _ _ _ (by simp)]; exact h1
  have a2 : (W.setCell ⟨b, 0, none⟩ x').cell? ⟨b, 2, none⟩ = some z := by rw [World.cell?_setCell_other _ _ _ _ (by simp)]; exact h2
  have b1 := World.cell?_setCell_same' (W.setCell ⟨b, 0, none⟩ x') ⟨b, 1, none⟩ y' (by rw [a1]; rfl)
  have b0 : ((W.setCell ⟨b, 0, none⟩ x').setCell ⟨b, 1, none⟩ y').cell? ⟨b, 0, none⟩ = some x' := by rw [World.cell?_setCell_other _ _ _ _ (by simp)]; exact a0
  have b2 : ((W.setCell ⟨b, 0, none⟩ x').setCell ⟨b, 1, none⟩ y').cell? ⟨b, 2, none⟩ = some z := by rw [World.cell?_setCell_other _ _ _ _ (by simp)]; exact a2
  have c2 := World.cell?_setCell_same' ((W.setCell ⟨b, 0, none⟩ x').setCell ⟨b, 1, none⟩ y') ⟨b, 2, none⟩ z' (by rw [b2]; rfl)
  exact ⟨by rw [World.cell?_setCell_other _ _ _ _ (by simp)]; exact b0, by rw [World.cell?_setCell_other _ _ _ _ (by simp)]; exact b1, c2⟩
end Go.Proofs.YtlhgpeelenelbaaDoor

/- Contract of the specification's Fewest: the walk. -/
namespace Go.Proofs.YtlhgpeelenelbaaDoor
open Go.RowKit

def RFewPost (ts : List T3) (ss : List S2) (c : Int) (w : World) (e : Ending) (w' : World) : Prop :=
  ∃ v l d, e = .returned (.agg #[v, .slice none 0 0, .int .i64 d]) ∧ RT w'.heap.size v l w' ∧ Below w.heap.size w w' ∧ FewIs ts ss c l d
theorem rowT_succ {base n : Nat} {v : Value} {xs : List Value} {W : World} (h : W.ownsRow base 27 3 v (n + 1) xs) : ∃ g cap, v = .slice (some ⟨g, 0, none⟩) (n + 1) cap := by
  rcases h.2 with ⟨_, h0⟩ | ⟨g, cap, cur, rfl, _⟩
  · omega
  · exact ⟨g, cap, rfl⟩
theorem PerIs.cases {ts : List T3} {ss : List S2} {c r d : Int} (h : PerIs ts ss c r d) : (d ≠ 0 ∧ r = 0) ∨ (d = 0 ∧ c = 0 ∧ ss = [] ∧ ∃ p : Nat, r = p ∧ 1 ≤ p ∧ p ≤ 40320) := by
  rcases h with ⟨⟨a, b⟩ | ⟨a, b, e⟩, f⟩ | ⟨a, b, e, f, g, i⟩ | ⟨a, b, e, f, l1, l2, g, p, i, j, k, l, m⟩
  · exact .inl ⟨by omega, f⟩
  · exact .inl ⟨by omega, f⟩
  · exact .inl ⟨by omega, g⟩
  · refine .inr ⟨g, a, b, p, i, j, ?_⟩
    have : (roundOf ts).length = (lcmS ts).toNat := by unfold roundOf; rw [marks_len]
    omega

theorem NSd.grownL {w W W' : World} {v0 v1 : Value} {bs : List Nat} (h : NSd w v0 v1 W) (hg : GrownL bs W W') (hn : ∀ b ∈ bs, w.heap.size + 1 ≤ b) : NSd w v0 v1 W' := by
  obtain ⟨a0, a1, l1, hB⟩ := h.out
  have n0 : w.heap.size ∉ bs := fun hm => by have := hn _ hm; omega
  exact ⟨hg.cell a0 n0, hg.cell a1 n0, by have := hg.size; omega, hB.trans (hg.below (fun b hb => by have := hn b hb; omega) (by omega))⟩
/-- One turn more. -/
theorem RfL.more {w W w4 : World} {v0 v1 v : Value} {n1 n g' cap' : Nat} {l : List T3} {x : T3} (h : RfL w v0 v1 n1 v l W) (hga : GrownL v.ownBlock.toList W w4) (hn : l.length = n)
    (hown : w4.ownsRow (n1 + 2) 27 3 (.slice (some ⟨g', 0, none⟩) (n + 1) cap') (n + 1) (rowT3 l ++ [.int .i64 x.1, .int .i64 x.2.1, .int .i64 x.2.2])) :
    RfL w v0 v1 n1 (.slice (some ⟨g', 0, none⟩) (n + 1) cap') (l ++ [x]) (w4.setCell ⟨n1 + 1, 0, none⟩ (.slice (some ⟨g', 0, none⟩) (n + 1) cap')) := by
  have hlt := fun q (hq : q ∈ v.ownBlock.toList) => h.own.lt q (by simpa using hq)
  have hle := h.le
  have hs := hga.size
  have hsz := h.siz
  have hn1 : n1 + 1 ∉ v.ownBlock.toList := fun hm => by have := hlt _ hm; omega
  have gs := GrownL.set (bs := [n1 + 1]) w4 ⟨n1 + 1, 0, none⟩ (.slice (some ⟨g', 0, none⟩) (n + 1) cap') (by simp)
  have hg' := (World.ownsRow.lt hown g' rfl).1
  have e0 : w4.cell? ⟨n1 + 1, 0, none⟩ = some v := hga.cell h.c0 hn1
  have e1 : w4.cell? ⟨n1 + 1, 1, none⟩ = some (.slice none 0 0) := hga.cell h.c1 hn1
  have e2 : w4.cell? ⟨n1 + 1, 2, none⟩ = some (.int .i64 0) := hga.cell h.c2 hn1
  refine ⟨?_, (h.ns.grownL hga (fun q hq => by have := hlt q hq; omega)).grownL gs (fun q hq => by simp at hq; omega), ?_, World.cell?_setCell_same' _ _ _ (by rw [e0]; rfl), ?_, ?_, ?_, hle, ?_⟩
  · refine OwnT.grown (bs := [n1 + 1]) (W := w4) ?_ gs (fun q hq hm => by simp [Value.ownBlock] at hq hm; omega)
    unfold OwnT
    rw [rowT3_snoc, List.length_append, hn]
    exact hown
  · exact (gs.block _ (by omega) (by simp; omega)).trans ((hga.block _ (by omega) (fun hm => by have := hlt _ hm; omega)).trans h.res)
  · rw [World.cell?_setCell_other _ _ _ _ (by simp)]; exact e1
  · rw [World.cell?_setCell_other _ _ _ _ (by simp)]; exact e2
  · rw [World.frozen?_setCell]
    exact (World.frozen?_of_block (a := ⟨n1 + 1, 0, none⟩) (hga.block _ (by show n1 + 1 < _; omega) hn1)).trans h.f0
  · have := gs.size; omega

set_option maxHeartbeats 16000000 in
set_option maxRecDepth 1000000 in
theorem rfewest_any (v : Value) (ts : List T3) (ss : List S2) (c : Int) (w : World) (h : RM w.heap.size v ts ss w) (hc : CheckIs ts ss c) :
    Calls Tryd.prog 49 #[v] w (RFewPost ts ss c w) := by
  obtain ⟨i0, hi, hz0, hz1, hz2⟩ := info_parts infoTurn
  obtain ⟨A, m, ca, A', m', ca', rfl, -, -⟩ := id h
  have C := Lib.hid fun W (S : NSd w (.slice A m ca) (.slice A' m' ca') W) => rperiod_any _ ts ss c W (h.up S.siz S.bel) hc
  have CH : Hid (c = 0 → ∀ (n : Int) W, -1000000000 ≤ n → n ≤ 1000000000 → NSd w (.slice A m ca) (.slice A' m' ca') W → Calls Tryd.prog 70 #[.agg #[.slice A m ca, .slice A' m' ca'], .int .i64 n] W fun e w' => e = .returned (.bool (setB (lotsOf ts ss) n)) ∧ Below W.heap.size W w') := Lib.hid fun h0 n W n0 n1 S => by
    subst h0
    obtain ⟨k1, k2, k3⟩ := checkIs_ok hc
    exact rhas_any _ ts ss n W (h.up S.siz S.bel) k3 k1 k2 n0 n1
  have S0 : Hid (NSd w (.slice A m ca) (.slice A' m' ca') ((w.alloc (.cells #[.slice A m ca, .slice A' m' ca'] 25)).alloc (.cells #[.slice none 0 0, .slice none 0 0, .int .i64 0] 68))) := Lib.hid ((NSd.new _).alloc _)
  have hres0 : ((w.alloc (.cells #[.slice A m ca, .slice A' m' ca'] 25)).alloc (.cells #[.slice none 0 0, .slice none 0 0, .int .i64 0] 68)).heap[w.heap.size + 1]? = some (.cells #[.slice none 0 0, .slice none 0 0, .int .i64 0] 68 (0, 0)) := by
    have := World.alloc_heap_new (w.alloc (.cells #[.slice A m ca, .slice A' m' ca'] 25)) (.cells #[.slice none 0 0, .slice none 0 0, .int .i64 0] 68)
    simpa using this
  have HR0 := Lib.hid hres0
  clear h hc hres0
  go_enter Tryd.func49, Tryd.ntmps49
  go_wp2_with fail
  refine (C.out _ S0.out).mono ?_
  rintro e w1 ⟨r, d, rfl, hp, h1⟩
  have S1 := Lib.hid (S0.out.below h1)
  have hz : w.heap.size + 2 ≤ w1.heap.size := by have := h1.size; simpa using this
  have HR1 : Hid (w1.heap[w.heap.size + 1]? = some (.cells #[.slice none 0 0, .slice none 0 0, .int .i64 0] 68 (0, 0))) := Lib.hid ((h1.block _ (by simp)).trans HR0.out)
  have HP := Lib.hid hp
  clear h1 S0 HR0 hp
  rcases HP.out.cases with ⟨d0, rfl⟩ | ⟨rfl, rfl, rfl, p, rfl, p1, p2⟩
  · have hb0 : (d != 0) = true := by rw [bne_iff_ne]; exact d0
    have HF : Hid (FewIs ts ss c [] d) := Lib.hid ⟨0, d, HP.out, .inl ⟨d0, rfl, rfl⟩⟩
    clear d0
    have hr2 : (w1.alloc (.cells #[.int .i64 0, .int .i64 d] 63)).heap[w.heap.size + 1]? = some (.cells #[.slice none 0 0, .slice none 0 0, .int .i64 0] 68 (0, 0)) := (Below.heap_alloc _ _ _ (by omega)).trans HR1.out
    have x0 : (w1.alloc (.cells #[.int .i64 0, .int .i64 d] 63)).cell? ⟨w.heap.size + 1, 0, none⟩ = some (.slice none 0 0) := by simp [World.cell?, hr2]
    have x1 : (w1.alloc (.cells #[.int .i64 0, .int .i64 d] 63)).cell? ⟨w.heap.size + 1, 1, none⟩ = some (.slice none 0 0) := by simp [World.cell?, hr2]
    have x2 : (w1.alloc (.cells #[.int .i64 0, .int .i64 d] 63)).cell? ⟨w.heap.size + 1, 2, none⟩ = some (.int .i64 0) := by simp [World.cell?, hr2]
    have f0 : (w1.alloc (.cells #[.int .i64 0, .int .i64 d] 63)).frozen? ⟨w.heap.size + 1, 0, none⟩ = false := by simp [World.frozen?, hr2]
    have f1 : (w1.alloc (.cells #[.int .i64 0, .int .i64 d] 63)).frozen? ⟨w.heap.size + 1, 1, none⟩ = false := by simp [World.frozen?, hr2]
    have f2 : (w1.alloc (.cells #[.int .i64 0, .int .i64 d] 63)).frozen? ⟨w.heap.size + 1, 2, none⟩ = false := by simp [World.frozen?, hr2]
    have q := set3 x0 x1 x2 (.slice none 0 0) (.slice none 0 0) (.int .i64 d)
    have B : Hid (Below w.heap.size w ((((w1.alloc (.cells #[.int .i64 0, .int .i64 d] 63)).setCell ⟨w.heap.size + 1, 0, none⟩ (.slice none 0 0)).setCell ⟨w.heap.size + 1, 1, none⟩ (.slice none 0 0)).setCell ⟨w.heap.size + 1, 2, none⟩ (.int .i64 d))) :=
      Lib.hid ((((S1.out.bel.alloc (by omega) _).setCell (p := ⟨w.heap.size + 1, 0, none⟩) (by simp) _).setCell (p := ⟨w.heap.size + 1, 1, none⟩) (by simp) _).setCell (p := ⟨w.heap.size + 1, 2, none⟩) (by simp) _)
    have Q := Lib.hid q
    clear hr2 q
    go_wp2_with fail
    refine bodyPost_ret (v := .agg #[.slice none 0 0, .slice none 0 0, .int .i64 d]) ?_ rfl ?_
    · obtain ⟨q0, q1, q2⟩ := Q.out
      simp [results, Tryd.results49, go_sem, q0, q1, q2]
    · exact ⟨_, [], d, rfl, rt_nil _ _, B.out, HF.out⟩
  · have CHas := Lib.hid (CH.out rfl)
    generalize hH : setB (lotsOf ts []) = H at *
    have HH := Lib.hid hH
    obtain ⟨n1, hn1⟩ : ∃ n, n = w1.heap.size := ⟨_, rfl⟩
    have hL0 : RfL w (.slice A m ca) (.slice A' m' ca') n1 (.slice none 0 0) (fewU H p 0) ((w1.alloc (.cells #[.int .i64 p, .int .i64 0] 63)).alloc (.cells #[.slice none 0 0, .slice none 0 0, .int .i64 0] 68)) := by
      subst hn1
      exact ⟨World.ownsRow_nil _ _ _ _, (S1.out.alloc _).alloc _, (Below.heap_alloc _ _ _ (by simp; omega)).trans ((Below.heap_alloc _ _ _ (by omega)).trans HR1.out), by simp [go_sem], by simp [go_sem], by simp [go_sem], by simp [go_sem], by omega, by simp⟩
    have HL0 := Lib.hid hL0
    clear hL0 hH S1 HR1 C CH
    go_wp2_with fail
    rw [← hn1] at *
    go_loopw [6] (fun u wr => ∃ (k : Nat) (v : Value), u = .int .i64 k ∧ k ≤ p ∧ RfL w (.slice A m ca) (.slice A' m' ca') n1 v (fewU H p k) wr) (fun u _ => p - (intOf u).toNat)
    case atStart => exact ⟨0, _, rfl, by omega, HL0.out⟩
    case round =>
      obtain ⟨k, v, rfl, hk, hS⟩ := hrel
      have S := Lib.hid hS
      clear hS
      obtain ⟨t0, t1, t2, _⟩ := S.out.ns.out
      by_cases hkp : k < p
      · have hk0 : (k : Int) < (p : Int) := by omega
        have Ra := Lib.hid fun W S => CHas.out (k : Int) W (by omega) (by omega) S
        have Rb := Lib.hid fun W S => CHas.out ((k : Int) + p - 1) W (by omega) (by omega) S
        have W1 : IntKind.i64.wrap ((k : Int) + p) = (k : Int) + p := IntWalk.i64_in _ (by omega)
        have W2 : IntKind.i64.wrap ((k : Int) + p - 1) = (k : Int) + p - 1 := IntWalk.i64_in _ (by omega)
        have HF : Hid (fewU H p (k + 1) = if H k = true ∧ (p = 1 ∨ H ((k : Int) + p - 1) = false) then fewU H p k ++ [((p : Int), (k : Int), (longF H p k : Int))] else fewU H p k) := Lib.hid rfl
        obtain ⟨x, hx⟩ : ∃ x, H (k : Int) = x := ⟨_, rfl⟩
        obtain ⟨y, hy⟩ : ∃ y, H ((k : Int) + p - 1) = y := ⟨_, rfl⟩
        obtain ⟨b, hb⟩ : ∃ b, decide ((1 : Int) < (p : Int)) = b := ⟨_, rfl⟩
        rw [hx] at Ra
        rw [hy] at Rb
        have HX := Lib.hid hx
        have HY := Lib.hid hy
        have HB := Lib.hid hb
        clear hx hy
        obtain ⟨go, hgo⟩ : ∃ go, (x && (!y || !b)) = go := ⟨_, rfl⟩
        have HGO : Hid (if go = true then H k = true ∧ (p = 1 ∨ H ((k : Int) + p - 1) = false) else ¬ (H k = true ∧ (p = 1 ∨ H ((k : Int) + p - 1) = false))) := Lib.hid (by
          rw [HX.out, HY.out]
          have hb' := HB.out
          cases x <;> cases y <;> cases b <;> simp at hgo hb' <;> subst hgo <;> simp <;> omega)
        cases x <;> cases y <;> cases b
        all_goals
          have hg2 := hgo
          simp at hg2
          subst hg2
          clear hgo
          go_wp2_with fail
          refine (Ra.out _ S.out.ns).mono ?_
          rintro e w3 ⟨rfl, h3⟩
          have S := Lib.hid (S.out.below h3)
          clear h3 t0 t1 t2
          obtain ⟨t0, t1, t2, _⟩ := S.out.ns.out
          go_wp2_with fail
          refine (Rb.out _ S.out.ns).mono ?_
          rintro e w4 ⟨rfl, h4⟩
          have S := Lib.hid (S.out.below h4)
          clear h4 t0 t1 t2
          obtain ⟨t0, t1, t2, _⟩ := S.out.ns.out
          go_wp2_with fail
        all_goals first
          | (have K := Lib.hid (S.out.cast (l' := fewU H p (k + 1)) (by rw [HF.out, if_neg (by simpa using HGO.out)]))
             go_roundw
             case rel => exact ⟨k + 1, v, by go_num, by omega, K.out⟩
             case measure => show p - ((k : Int) + 1).toNat < p - (k : Int).toNat; omega)
          | skip
        all_goals
          obtain ⟨Av, cv, rfl, -⟩ := S.out.own.form
          obtain ⟨n, hn⟩ : ∃ n, (fewU H p k).length = n := ⟨_, rfl⟩
          have hnp : n ≤ 40320 := by have := fewU_len H p k; omega
          have HN := Lib.hid hn
          rw [hn] at S
          clear hn t0 t1 t2
          go_loopw [9] (fun u wi => ∃ t : Nat, u = .int .i64 t ∧ 1 ≤ t ∧ t ≤ p ∧ longG H k (p - t) t = longF H p k ∧ RfL w (.slice A m ca) (.slice A' m' ca') n1 (.slice Av n cv) (fewU H p k) wi) (fun u _ => p - (intOf u).toNat)
          case atStart => exact ⟨1, rfl, by omega, by omega, rfl, S.out⟩
          case round =>
            obtain ⟨t, rfl, t1, t2, htl, hS2⟩ := hrel
            have HTL := Lib.hid htl
            have S := Lib.hid hS2
            clear htl hS2
            obtain ⟨u0, u1, u2, _⟩ := S.out.ns.out
            by_cases htp : t < p
            · have hk2 : (t : Int) < (p : Int) := by omega
              have V1 : IntKind.i64.wrap ((k : Int) + t) = (k : Int) + t := IntWalk.i64_in _ (by omega)
              have V5 : IntKind.i64.wrap ((t : Int) + 1) = (t : Int) + 1 := IntWalk.i64_in _ (by omega)
              have Rc := Lib.hid fun W S => CHas.out ((k : Int) + t) W (by omega) (by omega) S
              obtain ⟨z, hz⟩ : ∃ z, H ((k : Int) + t) = z := ⟨_, rfl⟩
              rw [hz] at Rc
              have HZ := Lib.hid hz
              clear hz
              cases z
              · have HE : Hid (longF H p k = t) := Lib.hid (by rw [← HTL.out]; exact longG_stop HZ.out)
                go_wp2_with fail
                refine (Rc.out _ S.out.ns).mono ?_
                rintro e w5 ⟨rfl, h5⟩
                have S := Lib.hid (S.out.below h5)
                clear h5 u0 u1 u2
                have HO : Hid (w5.ownsRow (n1 + 2) 27 3 (.slice Av n cv) n (rowT3 (fewU H p k))) := Lib.hid (by have := S.out.own; unfold OwnT at this; rwa [HN.out] at this)
                have c0 := S.out.c0
                have f0 := S.out.f0
                have hsz := S.out.siz
                go_wp2_with (at_builtin; refine wpList_append_own _ rfl _ _ 22 rfl (n1 + 2) 27 i0 (.agg #[.int .i64 0, .int .i64 0, .int .i64 0]) 3 24 Tryd.underlying22 hi hz0 hz1 hz2 rfl (by decide) _ n _ rfl (HO.out.alloc _) ⟨w5.heap.size, 0, none⟩ 1 1 [.int .i64 p, .int .i64 k, .int .i64 t] rfl rfl ?c1 ?c2 ?c3 ?c4 ?c5 ?_)
                case c1 =>
                  intro j u hj
                  match j, hj with
                  | 0, hj => simp at hj; subst hj; simp [go_sem, Addr.add]
                  | 1, hj => simp at hj; subst hj; simp [go_sem, Addr.add]
                  | 2, hj => simp at hj; subst hj; simp [go_sem, Addr.add]
                  | j + 3, hj => simp at hj
                case c2 => intro u hu; simp at hu; rcases hu with rfl | rfl | rfl <;> rfl
                case c3 => unfold maxLen; omega
                case c4 => omega
                case c5 => simp <;> omega
                intro v' w4 hown' hgrow _
                obtain ⟨g', cap', rfl⟩ := rowT_succ hown'
                have hga : GrownL (Value.ownBlock (.slice Av n cv)).toList w5 w4 := (GrownL.of_below ((Below.refl _ _).alloc (Nat.le_refl _) _)).trans (GrownL.of_by' hgrow)
                have hlt : ∀ q ∈ (Value.ownBlock (.slice Av n cv)).toList, n1 + 2 ≤ q := fun q hq => (HO.out.lt q (by simpa using hq)).1
                have hnn : n1 + 1 ∉ (Value.ownBlock (.slice Av n cv)).toList := fun hm => by have := hlt _ hm; omega
                have c4 : w4.cell? ⟨n1 + 1, 0, none⟩ = some (.slice Av n cv) := hga.cell c0 hnn
                have f4 : w4.frozen? ⟨n1 + 1, 0, none⟩ = false := (World.frozen?_of_block (a := ⟨n1 + 1, 0, none⟩) (hga.block _ (by show n1 + 1 < _; omega) hnn)).trans f0
                have R : Hid (RfL w (.slice A m ca) (.slice A' m' ca') n1 (.slice (some ⟨g', 0, none⟩) (n + 1) cap') (fewU H p (k + 1)) (w4.setCell ⟨n1 + 1, 0, none⟩ (.slice (some ⟨g', 0, none⟩) (n + 1) cap'))) := Lib.hid ((S.out.more hga HN.out (x := ((p : Int), (k : Int), (t : Int))) hown').cast (by rw [HF.out, if_pos (by simpa using HGO.out), HE.out]))
                clear hown' hgrow hga hlt hnn c0 f0
                go_wp2_with fail
                go_roundw
                case rel => exact ⟨k + 1, _, by go_num, by omega, R.out⟩
                case measure => show p - ((k : Int) + 1).toNat < p - (k : Int).toNat; omega
              · have HT2 : Hid (longG H k (p - (t + 1)) (t + 1) = longF H p k) := Lib.hid (by rw [← longG_go htp HZ.out]; exact HTL.out)
                go_wp2_with fail
                refine (Rc.out _ S.out.ns).mono ?_
                rintro e w5 ⟨rfl, h5⟩
                have S := Lib.hid (S.out.below h5)
                clear h5 u0 u1 u2
                go_wp2_with fail
                go_roundw
                case rel => exact ⟨t + 1, by go_num, by omega, by omega, HT2.out, S.out⟩
                case measure => show p - ((t : Int) + 1).toNat < p - (t : Int).toNat; omega
            · have hk2 : decide ((t : Int) < (p : Int)) = false := decide_eq_false (by omega)
              have HE : Hid (longF H p k = t) := Lib.hid (by
                rw [← HTL.out, show p - t = 0 by omega]
                rfl)
              clear u0 u1 u2
              have HO : Hid (wr.ownsRow (n1 + 2) 27 3 (.slice Av n cv) n (rowT3 (fewU H p k))) := Lib.hid (by have := S.out.own; unfold OwnT at this; rwa [HN.out] at this)
              have c0 := S.out.c0
              have f0 := S.out.f0
              have hsz := S.out.siz
              go_wp2_with (at_builtin; refine wpList_append_own _ rfl _ _ 22 rfl (n1 + 2) 27 i0 (.agg #[.int .i64 0, .int .i64 0, .int .i64 0]) 3 24 Tryd.underlying22 hi hz0 hz1 hz2 rfl (by decide) _ n _ rfl (HO.out.alloc _) ⟨wr.heap.size, 0, none⟩ 1 1 [.int .i64 p, .int .i64 k, .int .i64 t] rfl rfl ?c1 ?c2 ?c3 ?c4 ?c5 ?_)
              case c1 =>
                intro j u hj
                match j, hj with
                | 0, hj => simp at hj; subst hj; simp [go_sem, Addr.add]
                | 1, hj => simp at hj; subst hj; simp [go_sem, Addr.add]
                | 2, hj => simp at hj; subst hj; simp [go_sem, Addr.add]
                | j + 3, hj => simp at hj
              case c2 => intro u hu; simp at hu; rcases hu with rfl | rfl | rfl <;> rfl
              case c3 => unfold maxLen; omega
              case c4 => omega
              case c5 => simp <;> omega
              intro v' w4 hown' hgrow _
              obtain ⟨g', cap', rfl⟩ := rowT_succ hown'
              have hga : GrownL (Value.ownBlock (.slice Av n cv)).toList wr w4 := (GrownL.of_below ((Below.refl _ _).alloc (Nat.le_refl _) _)).trans (GrownL.of_by' hgrow)
              have hlt : ∀ q ∈ (Value.ownBlock (.slice Av n cv)).toList, n1 + 2 ≤ q := fun q hq => (HO.out.lt q (by simpa using hq)).1
              have hnn : n1 + 1 ∉ (Value.ownBlock (.slice Av n cv)).toList := fun hm => by have := hlt _ hm; omega
              have c4 : w4.cell? ⟨n1 + 1, 0, none⟩ = some (.slice Av n cv) := hga.cell c0 hnn
              have f4 : w4.frozen? ⟨n1 + 1, 0, none⟩ = false := (World.frozen?_of_block (a := ⟨n1 + 1, 0, none⟩) (hga.block _ (by show n1 + 1 < _; omega) hnn)).trans f0
              have R : Hid (RfL w (.slice A m ca) (.slice A' m' ca') n1 (.slice (some ⟨g', 0, none⟩) (n + 1) cap') (fewU H p (k + 1)) (w4.setCell ⟨n1 + 1, 0, none⟩ (.slice (some ⟨g', 0, none⟩) (n + 1) cap'))) := Lib.hid ((S.out.more hga HN.out (x := ((p : Int), (k : Int), (t : Int))) hown').cast (by rw [HF.out, if_pos (by simpa using HGO.out), HE.out]))
              clear hown' hgrow hga hlt hnn c0 f0
              go_wp2_with fail
              go_roundw
              case rel => exact ⟨k + 1, _, by go_num, by omega, R.out⟩
              case measure => show p - ((k : Int) + 1).toNat < p - (k : Int).toNat; omega
      · have hkk : (p : Int) ≤ (k : Int) := by omega
        have hkp2 : k = p := by omega
        obtain ⟨Av, cv, rfl, -⟩ := S.out.own.form
        obtain ⟨n, hn⟩ : ∃ n, (fewU H p k).length = n := ⟨_, rfl⟩
        have HN : Hid ((fewU H p p).length = n) := Lib.hid (by rw [← hn, hkp2])
        have hlen : Hid (n ≤ 40320) := Lib.hid (by have := fewU_len H p k; omega)
        rw [hn] at S
        have c0 := S.out.c0
        have c1 := S.out.c1
        have c2 := S.out.c2
        obtain ⟨x0, x1, x2, g0, g1, g2⟩ := S.out.rres
        have HK := Lib.hid hkp2
        clear hn hkp hkp2 t0 t1 t2
        by_cases hbig : 24 < n
        · have hb : decide ((24 : Int) < (n : Int)) = true := decide_eq_true (by omega)
          have HB := Lib.hid hbig
          have Q := Lib.hid (set3 x0 x1 x2 (.slice none 0 0) (.slice none 0 0) (.int .i64 2))
          clear hbig
          go_wp2_with fail
          refine bodyPost_ret (v := .agg #[.slice none 0 0, .slice none 0 0, .int .i64 2]) ?_ rfl ?_
          · obtain ⟨q0, q1, q2⟩ := Q.out
            simp [results, Tryd.results49, go_sem, q0, q1, q2]
          · exact ⟨_, [], 2, rfl, rt_nil _ _, ((S.out.ns.bel.setCell (p := ⟨w.heap.size + 1, 0, none⟩) (by simp) _).setCell (p := ⟨w.heap.size + 1, 1, none⟩) (by simp) _).setCell (p := ⟨w.heap.size + 1, 2, none⟩) (by simp) _, _, 0, HP.out, .inr (.inr ⟨rfl, by rw [Int.toNat_natCast, HH.out, HN.out]; exact HB.out, rfl, rfl⟩)⟩
        · have hb : decide ((24 : Int) < (n : Int)) = false := decide_eq_false (by omega)
          have HB := Lib.hid hbig
          have Q := Lib.hid (set3 x0 x1 x2 (.slice Av n cv) (.slice none 0 0) (.int .i64 0))
          clear hbig
          go_wp2_with fail
          refine bodyPost_ret (v := .agg #[.slice Av n cv, .slice none 0 0, .int .i64 0]) ?_ rfl ?_
          · obtain ⟨q0, q1, q2⟩ := Q.out
            simp [results, Tryd.results49, go_sem, q0, q1, q2]
          · have hle := S.out.le
            have gg := ((GrownL.set (bs := [w.heap.size + 1]) wr ⟨w.heap.size + 1, 0, none⟩ (.slice Av n cv) (by simp)).trans (GrownL.set (bs := [w.heap.size + 1]) _ ⟨w.heap.size + 1, 1, none⟩ (.slice none 0 0) (by simp))).trans (GrownL.set (bs := [w.heap.size + 1]) _ ⟨w.heap.size + 1, 2, none⟩ (.int .i64 0) (by simp))
            have ho := S.out.own.grown gg (fun q hq hm => by have := S.out.own.lt q hq; simp at hm; omega)
            rw [HK.out] at ho
            refine ⟨.slice Av n cv, fewU H p p, 0, rfl, ho.rt (by have := hlen.out; have := HN.out; omega), ((S.out.ns.bel.setCell (p := ⟨w.heap.size + 1, 0, none⟩) (by simp) _).setCell (p := ⟨w.heap.size + 1, 1, none⟩) (by simp) _).setCell (p := ⟨w.heap.size + 1, 2, none⟩) (by simp) _, _, 0, HP.out, .inr (.inl ⟨rfl, ?_, ?_, rfl⟩)⟩
            · rw [Int.toNat_natCast, HH.out, HN.out]; have := HB.out; omega
            · rw [Int.toNat_natCast, HH.out]
end Go.Proofs.YtlhgpeelenelbaaDoor
