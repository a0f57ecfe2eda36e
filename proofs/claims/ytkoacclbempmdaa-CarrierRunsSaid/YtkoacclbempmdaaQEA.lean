/- Contract of the laws' wet. -/
import Derived.Test.YtkoacclbempmdaaGZL
import Derived.Test.YtkoacclbempmdaaGH
import Derived.Test.YtkoacclbempmdaaGS
import Derived.Test.YtkoacclbempmdaaGZF
namespace Go.Proofs.Ytkoacclbempmdaa
open Go.RowKit

def WetPost (s : Wa) (w : World) (e : Ending) (w' : World) : Prop := ∃ b, e = .returned (.bool b) ∧ (b = true → s.river.length ≤ 100 ∧ s.boards.length ≤ 100 ∧ s.leaks.length ≤ 100 ∧ s.losses.length ≤ 100) ∧ Below w.heap.size w w'
set_option maxHeartbeats 8000000 in
set_option maxRecDepth 1000000 in
theorem wet_any (v : Value) (s : Wa) (w : World) (h : RWa w.heap.size v s w) : Calls Try.prog 19 #[v] w (WetPost s w) := by
 obtain ⟨A1, c1, A2, c2, A3, c3, A4, c4, rfl⟩ := h.form
 clear h
 have hs : (100 : Int) < (s.river.length : Int) ∨ ((s.river.length : Int) ≤ 100 ∧ (100 : Int) < (s.boards.length : Int)) ∨ ((s.river.length : Int) ≤ 100 ∧ (s.boards.length : Int) ≤ 100 ∧ (100 : Int) < (s.leaks.length : Int)) ∨ ((s.river.length : Int) ≤ 100 ∧ (s.boards.length : Int) ≤ 100 ∧ (s.leaks.length : Int) ≤ 100 ∧ (100 : Int) < (s.losses.length : Int)) ∨ ((s.river.length : Int) ≤ 100 ∧ (s.boards.length : Int) ≤ 100 ∧ (s.leaks.length : Int) ≤ 100 ∧ (s.losses.length : Int) ≤ 100) := by omega
 have HB : Hid (Below w.heap.size w (w.alloc (.cells #[.slice A1 s.river.length c1, .slice A2 s.boards.length c2, .slice A3 s.leaks.length c3, .slice A4 s.losses.length c4] 27))) := Lib.hid ((Below.refl _ _).alloc (Nat.le_refl _) _)
 rcases hs with h1 | ⟨h1, h2⟩ | ⟨h1, h2, h3⟩ | ⟨h1, h2, h3, h4⟩ | ⟨h1, h2, h3, h4⟩
 all_goals
  go_enter Try.func19, Try.ntmps19
  go_wp2_with fail
  go_ret
  first
   | exact ⟨false, rfl, (fun h => by cases h), HB.out⟩
   | exact ⟨true, rfl, (fun _ => by omega), HB.out⟩
   | exact ⟨_, rfl, (fun h => by have := of_decide_eq_true h; omega), HB.out⟩

end Go.Proofs.Ytkoacclbempmdaa

/- A carrier, an outlet, in memory; a number behind a list. -/
namespace Go.Proofs.Ytkoacclbempmdaa
open Go.RowKit
theorem rk_at {B n c k : Nat} {A : Option Addr} {ws : Wk} {os : List Ou} {w : World} (h : RK B (.slice A n c) ws w) (hos : ws[k]? = some os) : ∃ b o, A = some ⟨b, o, none⟩ ∧ b < B ∧ ∃ u, w.cell? ⟨b, o + k, none⟩ = some u ∧ ∃ A1 c1, u = .slice A1 os.length c1 ∧ RO B u os w := by
 obtain ⟨A0, c0, e0, -, hx⟩ := h
 have hk := (List.getElem?_eq_some_iff.1 hos).1
 simp only [Value.slice.injEq] at e0
 obtain ⟨rfl, -, -⟩ := e0
 obtain ⟨b, o, e1, e2, e3⟩ := hx (by omega)
 obtain ⟨u, hu, hr⟩ := e3 k os hos
 obtain ⟨a, cc, e⟩ := hr.slice
 exact ⟨b, o, e1, e2, u, hu, a, cc, e, hr⟩
theorem ro_at {B n c j : Nat} {A : Option Addr} {os : List Ou} {p : Ou} {w : World} (h : RO B (.slice A n c) os w) (hp : os[j]? = some p) : ∃ b o, A = some ⟨b, o, none⟩ ∧ b < B ∧ OuAt B b (o + j * 7) p w := by
 obtain ⟨A0, c0, e0, -, hx⟩ := h
 have hj := (List.getElem?_eq_some_iff.1 hp).1
 simp only [Value.slice.injEq] at e0
 obtain ⟨rfl, -, -⟩ := e0
 obtain ⟨b, o, e1, e2, e3⟩ := hx (by omega)
 exact ⟨b, o, e1, e2, e3 j p hp⟩
theorem own_snoc {W : World} {base n : Nat} {v : Value} {l : List Int} {y : Int} (h : W.ownsRow base 3 1 v (n + 1) (l.flatMap encI ++ [.int .i64 y])) (hn : l.length = n) : OwnG encI 1 3 base v (l ++ [y]) W := by
 unfold OwnG
 rw [List.flatMap_append, List.length_append, hn]
 exact h
theorem new_set (W : World) (a : Addr) (v x : Value) (t : TypeId) (i : Nat) (u : Value) (hi : [x][i]? = some u) : ((W.setCell a v).alloc (.cells #[x] t)).cell? ((⟨W.heap.size, 0, none⟩ : Addr).add i) = some u := by
 have := one_news (W.setCell a v) x t i u hi
 rwa [show (W.setCell a v).heap.size = W.heap.size by simp] at this

end Go.Proofs.Ytkoacclbempmdaa

/- A course in memory, and the law's runs. -/
namespace Go.Proofs.Ytkoacclbempmdaa
open Go.RowKit

/-- A run: its minutes, its water. -/
structure Rn where
 mn : Int
 wa : Wa
/-- The cells of a run. -/
def RnAt (B b o : Nat) (r : Rn) (w : World) : Prop :=
 w.cell? ⟨b, o, none⟩ = some (.int .i64 r.mn) ∧ ∃ u0 u1 u2 u3, w.cell? ⟨b, o + 1, none⟩ = some u0 ∧ w.cell? ⟨b, o + 1 + 1, none⟩ = some u1 ∧ w.cell? ⟨b, o + 1 + 2, none⟩ = some u2 ∧ w.cell? ⟨b, o + 1 + 3, none⟩ = some u3 ∧ RWa B (.agg #[u0, u1, u2, u3]) r.wa w
/-- A slice of runs. -/
def RN (B : Nat) (v : Value) (l : List Rn) (w : World) : Prop :=
 ∃ A c, v = .slice A l.length c ∧ Fits l.length ∧ (0 < l.length → ∃ b o, A = some ⟨b, o, none⟩ ∧ b < B ∧ ∀ k x, l[k]? = some x → RnAt B b (o + k * 5) x w)
theorem RN.up {B B' : Nat} {v : Value} {l : List Rn} {w w' : World} (h : RN B v l w) (hB : B ≤ B') (hb : Below B w w') : RN B' v l w' := by
 obtain ⟨A, c, e, hl, hc⟩ := h
 refine ⟨A, c, e, hl, fun hp => ?_⟩
 obtain ⟨b, o, e2, hlt, k⟩ := hc hp
 refine ⟨b, o, e2, Nat.lt_of_lt_of_le hlt hB, fun i x hi => ?_⟩
 obtain ⟨h0, u0, u1, u2, u3, h1, h2, h3, h4, h5⟩ := k i x hi
 exact ⟨(hb.cell (p := ⟨b, o + i * 5, none⟩) hlt).trans h0, u0, u1, u2, u3, (hb.cell (p := ⟨b, o + i * 5 + 1, none⟩) hlt).trans h1, (hb.cell (p := ⟨b, o + i * 5 + 1 + 1, none⟩) hlt).trans h2, (hb.cell (p := ⟨b, o + i * 5 + 1 + 2, none⟩) hlt).trans h3, (hb.cell (p := ⟨b, o + i * 5 + 1 + 3, none⟩) hlt).trans h4, h5.up hB hb⟩
theorem RN.form {B : Nat} {v : Value} {l : List Rn} {w : World} (h : RN B v l w) : ∃ A c, v = .slice A l.length c := by obtain ⟨A, c, e, _⟩ := h; exact ⟨A, c, e⟩
theorem RN.fits {B : Nat} {v : Value} {l : List Rn} {w : World} (h : RN B v l w) : Fits l.length := by obtain ⟨_, _, _, hl, _⟩ := h; exact hl
theorem rn_at {B n c j : Nat} {A : Option Addr} {l : List Rn} {r : Rn} {w : World} (h : RN B (.slice A n c) l w) (hp : l[j]? = some r) : ∃ b o, A = some ⟨b, o, none⟩ ∧ b < B ∧ w.cell? ⟨b, o + j * 5, none⟩ = some (.int .i64 r.mn) ∧ ∃ A1 c1 A2 c2 A3 c3 A4 c4, w.cell? ⟨b, o + j * 5 + 1, none⟩ = some (.slice A1 r.wa.river.length c1) ∧ w.cell? ⟨b, o + j * 5 + 1 + 1, none⟩ = some (.slice A2 r.wa.boards.length c2) ∧ w.cell? ⟨b, o + j * 5 + 1 + 2, none⟩ = some (.slice A3 r.wa.leaks.length c3) ∧ w.cell? ⟨b, o + j * 5 + 1 + 3, none⟩ = some (.slice A4 r.wa.losses.length c4) ∧ RWa B (.agg #[.slice A1 r.wa.river.length c1, .slice A2 r.wa.boards.length c2, .slice A3 r.wa.leaks.length c3, .slice A4 r.wa.losses.length c4]) r.wa w := by
 obtain ⟨A0, c0, e0, -, hx⟩ := h
 have hj := (List.getElem?_eq_some_iff.1 hp).1
 simp only [Value.slice.injEq] at e0
 obtain ⟨rfl, -, -⟩ := e0
 obtain ⟨b, o, e1, e2, hh⟩ := hx (by omega)
 obtain ⟨h0, u0, u1, u2, u3, h1, h2, h3, h4, h5⟩ := hh j r hp
 obtain ⟨A1, c1, A2, c2, A3, c3, A4, c4, e⟩ := h5.form
 simp only [Value.agg.injEq, Array.mk.injEq, List.cons.injEq, and_true] at e
 obtain ⟨rfl, rfl, rfl, rfl⟩ := e
 exact ⟨b, o, e1, e2, h0, A1, c1, A2, c2, A3, c3, A4, c4, h1, h2, h3, h4, h5⟩

def RunsPost (l : List Rn) (w : World) (e : Ending) (w' : World) : Prop := ∃ b, e = .returned (.bool b) ∧ (b = true → l.length ≤ 80) ∧ Below w.heap.size w w'
set_option maxHeartbeats 8000000 in
set_option maxRecDepth 1000000 in
theorem runs_any (v : Value) (l : List Rn) (w : World) (h : RN w.heap.size v l w) : Calls Try.prog 40 #[v] w (RunsPost l w) := by
 obtain ⟨A, c, rfl⟩ := h.form
 have HF := Lib.hid h.fits
 have H := Lib.hid h
 have HB := Lib.hid (Below.refl w.heap.size w)
 have hfit : (l.length : Int) ≤ 1000000000000000 := by have := HF.out; omega
 clear h
 go_enter Try.func40, Try.ntmps40
 go_wp2_with fail
 go_loopw [3] (fun a wr => ∃ j : Nat, a = .int .i64 j ∧ j ≤ l.length ∧ Below w.heap.size w wr) (fun a _ => l.length - (intOf a).toNat)
 case atStart => exact ⟨0, rfl, by omega, HB.out⟩
 case round =>
  obtain ⟨j, rfl, hj, hb⟩ := hrel
  have S := Lib.hid hb
  clear hb
  by_cases hjl : j < l.length
  ·have hj0 : (j : Int) < (l.length : Int) := by omega
   obtain ⟨r, hr⟩ : ∃ r, l[j]? = some r := ⟨_, List.getElem?_eq_getElem hjl⟩
   obtain ⟨b, o, rfl, hlt, q0, A1, c1, A2, c2, A3, c3, A4, c4, q1, q2, q3, q4, q5⟩ := rn_at (H.out.up S.out.size S.out) hr
   have Q := Lib.hid q5
   clear q5 hr
   go_wp2_with fail
   refine (wet_any _ r.wa _ Q.out).mono ?_
   rintro e w1 ⟨x, rfl, -, b1⟩
   have S1 := Lib.hid (S.out.trans (b1.mono S.out.size))
   clear b1 Q q0 q1 q2 q3 q4
   cases x
   ·go_wp2_with fail
    go_ret
    exact ⟨false, rfl, (fun h => by cases h), S1.out⟩
   ·go_wp2_with fail
    go_roundw
    case rel => exact ⟨j + 1, by go_num, by omega, S1.out⟩
    case measure => show l.length - ((j : Int) + 1).toNat < l.length - (j : Int).toNat; omega
  ·have hj0 : (l.length : Int) ≤ (j : Int) := by omega
   have hs : (l.length : Int) ≤ 6 ∨ ((6 : Int) < (l.length : Int) ∧ (l.length : Int) ≤ 60) ∨ ((6 : Int) < (l.length : Int) ∧ (60 : Int) < (l.length : Int) ∧ (l.length : Int) ≤ 80) ∨ ((6 : Int) < (l.length : Int) ∧ (60 : Int) < (l.length : Int) ∧ (80 : Int) < (l.length : Int)) := by omega
   rcases hs with h1 | ⟨h1, h2⟩ | ⟨h1, h2, h3⟩ | ⟨h1, h2, h3⟩
   all_goals
    go_wp2_with fail
    go_ret
    first
     | exact ⟨false, rfl, (fun h => by cases h), S.out⟩
     | exact ⟨_, rfl, (fun h => by (try simp only [Bool.or_eq_true, decide_eq_true_eq] at h); omega), S.out⟩
     | exact ⟨true, rfl, (fun _ => by omega), S.out⟩
end Go.Proofs.Ytkoacclbempmdaa

/- Contract of the program's checkCourse. -/
namespace Go.Proofs.Ytkoacclbempmdaa
open Go.RowKit

def RnOk (ws : Wk) (r : Rn) : Prop := (1 ≤ r.mn ∧ r.mn ≤ 1048576) ∧ WaOk ws r.wa
def CourseIs (ws : Wk) (l : List Rn) (d : Int) : Prop := (CheckIs ws d ∧ d ≠ 0) ∨ (CheckIs ws 0 ∧ 60 < l.length ∧ d = 2) ∨ (CheckIs ws 0 ∧ l.length ≤ 60 ∧ (¬ ∀ (j : Nat) (r : Rn), l[j]? = some r → RnOk ws r) ∧ d = 1) ∨ (CheckIs ws 0 ∧ l.length ≤ 60 ∧ (∀ (j : Nat) (r : Rn), l[j]? = some r → RnOk ws r) ∧ d = 0)
theorem CourseIs.exists_ (ws : Wk) (l : List Rn) : ∃ d, CourseIs ws l d := by
 obtain ⟨d, hd⟩ := CheckIs.exists_ ws
 by_cases h : d = 0
 ·subst h
  by_cases h1 : 60 < l.length
  ·exact ⟨2, .inr (.inl ⟨hd, h1, rfl⟩)⟩
  ·by_cases h2 : ∀ (j : Nat) (r : Rn), l[j]? = some r → RnOk ws r
   ·exact ⟨0, .inr (.inr (.inr ⟨hd, by omega, h2, rfl⟩))⟩
   ·exact ⟨1, .inr (.inr (.inl ⟨hd, by omega, h2, rfl⟩))⟩
 ·exact ⟨d, .inl ⟨hd, h⟩⟩
/-- What a function over works and a course holds in its first block. -/
structure WC1 (w : World) (v : Value) (W : World) : Prop where
 wk : W.cell? ⟨w.heap.size, 0, none⟩ = some v
 bel : Below w.heap.size w W
theorem WC1.new (w : World) (v : Value) : WC1 w v (w.alloc (.cells #[v] 24)) := ⟨by simp [go_sem], (Below.refl _ _).alloc (Nat.le_refl _) _⟩
theorem WC1.below {w W W' : World} {v : Value} (h : WC1 w v W) (hb : Below W.heap.size W W') : WC1 w v W' := ⟨BelS.c hb h.wk, h.bel.trans (hb.mono h.bel.size)⟩
theorem WC1.siz {w W : World} {v : Value} (h : WC1 w v W) : w.heap.size < W.heap.size := World.block_lt_of_cell? _ _ h.wk
/-- A run in a block of its own. -/
theorem run_new (W : World) (m : Int) (u0 u1 u2 u3 : Value) {X : World} (hX : W.alloc (.cells #[.int .i64 m, u0, u1, u2, u3] 78) = X) : X.cell? ⟨W.heap.size, 0, none⟩ = some (.int .i64 m) ∧ X.cell? ⟨W.heap.size, 1, none⟩ = some u0 ∧ X.cell? ⟨W.heap.size, 1 + 1, none⟩ = some u1 ∧ X.cell? ⟨W.heap.size, 1 + 2, none⟩ = some u2 ∧ X.cell? ⟨W.heap.size, 1 + 3, none⟩ = some u3 ∧ Below W.heap.size W X := by
 subst hX
 exact ⟨by simp [go_sem], by simp [go_sem], by simp [go_sem], by simp [go_sem], by simp [go_sem], (Below.refl _ _).alloc (Nat.le_refl _) _⟩

set_option maxHeartbeats 8000000 in
set_option maxRecDepth 1000000 in
theorem checkCourse_any (v lv : Value) (ws : Wk) (l : List Rn) (d : Int) (w : World) (h : RK w.heap.size v ws w) (ht : total ws ≤ 100000) (hl : RN w.heap.size lv l w) (hd : CourseIs ws l d) :
  Calls Try.prog 99 #[.agg #[v], lv] w fun e w' => e = .returned (.int .i64 d) ∧ Below w.heap.size w w' := by
 obtain ⟨A, c, rfl, -⟩ := (show ∃ A c, v = .slice A ws.length c ∧ True by obtain ⟨A, c, e, _⟩ := h; exact ⟨A, c, e, trivial⟩)
 obtain ⟨Al, cl, rfl⟩ := hl.form
 have C1 := Lib.hid fun (d : Int) (hc : CheckIs ws d) W (hb : Below w.heap.size w W) => check_any (.slice A ws.length c) ws d W (h.up hb.size hb) (by omega) hc
 have HK := Lib.hid h
 have HL := Lib.hid hl
 have S0 := Lib.hid (WC1.new w (.slice A ws.length c))
 obtain ⟨dc, hdc, hz, hcase⟩ : ∃ dc, CheckIs ws dc ∧ (dc ≠ 0 → d = dc) ∧ (dc = 0 → (60 < l.length ∧ d = 2) ∨ (l.length ≤ 60 ∧ (¬ ∀ (j : Nat) (r : Rn), l[j]? = some r → RnOk ws r) ∧ d = 1) ∨ (l.length ≤ 60 ∧ (∀ (j : Nat) (r : Rn), l[j]? = some r → RnOk ws r) ∧ d = 0)) := by
  rcases hd with ⟨h, h0⟩ | ⟨h, h1⟩ | ⟨h, h1⟩ | ⟨h, h1⟩
  ·exact ⟨d, h, fun _ => rfl, fun h => absurd h h0⟩
  ·exact ⟨0, h, fun h => absurd rfl h, fun _ => .inl h1⟩
  ·exact ⟨0, h, fun h => absurd rfl h, fun _ => .inr (.inl h1)⟩
  ·exact ⟨0, h, fun h => absurd rfl h, fun _ => .inr (.inr h1)⟩
 have HC := Lib.hid hdc
 have HZ := Lib.hid hz
 have HCX := Lib.hid hcase
 have HF := Lib.hid hl.fits
 have hfit : (l.length : Int) ≤ 1000000000000000 := by have := HF.out; omega
 clear h hl hd hdc hz hcase
 go_enter Try.func99, Try.ntmps99
 go_wp2_with fail
 refine (C1.out dc HC.out _ S0.out.bel).mono ?_
 rintro e w1 ⟨rfl, b1⟩
 have S := Lib.hid (S0.out.below b1)
 clear b1 C1 S0
 by_cases hd0 : dc = 0
 rotate_left
 ·have hdb : (dc != 0) = true := by rw [bne_iff_ne]; exact hd0
  have E := Lib.hid (HZ.out hd0)
  go_wp2_with fail
  go_ret
  exact ⟨by rw [E.out]; try rfl, S.out.bel⟩
 subst hd0
 have HCS := Lib.hid (HCX.out rfl)
 have HW : Hid (WOk ws) := Lib.hid HC.out.ok
 by_cases h60 : 60 < l.length
 ·have h0 : (60 : Int) < (l.length : Int) := by omega
  have E : Hid (d = 2) := Lib.hid (by rcases HCS.out with ⟨_, h⟩ | ⟨h, _⟩ | ⟨h, _⟩ <;> omega)
  go_wp2_with fail
  go_ret
  exact ⟨by rw [E.out]; try rfl, S.out.bel⟩
 have h0 : (l.length : Int) ≤ 60 := by omega
 go_wp2_with fail
 go_loopw [18] (fun a wr => ∃ j : Nat, a = .int .i64 j ∧ j ≤ l.length ∧ (∀ (i : Nat) (r : Rn), i < j → l[i]? = some r → RnOk ws r) ∧ WC1 w (.slice A ws.length c) wr) (fun a _ => l.length - (intOf a).toNat)
 case atStart => exact ⟨0, rfl, by omega, fun i r hi => absurd hi (by omega), S.out⟩
 case round =>
  obtain ⟨j, rfl, hj, hpre, hS⟩ := hrel
  replace S := Lib.hid hS
  have HP := Lib.hid hpre
  clear hS hpre
  by_cases hjl : j < l.length
  ·have hj0 : (j : Int) < (l.length : Int) := by omega
   obtain ⟨r, hr⟩ : ∃ r, l[j]? = some r := ⟨_, List.getElem?_eq_getElem hjl⟩
   have HR := Lib.hid hr
   obtain ⟨b, o, rfl, hlt, q0, A1, c1, A2, c2, A3, c3, A4, c4, q1, q2, q3, q4, q5⟩ := rn_at (HL.out.up S.out.bel.size S.out.bel) hr
   have Q := Lib.hid q5
   clear q5 hr
   go_upto_region 9 with fail
   obtain ⟨X, hX⟩ : ∃ X, wr.alloc (.cells #[.int .i64 r.mn, .slice A1 r.wa.river.length c1, .slice A2 r.wa.boards.length c2, .slice A3 r.wa.leaks.length c3, .slice A4 r.wa.losses.length c4] 78) = X := ⟨_, rfl⟩
   rw [hX]
   obtain ⟨x0, x1, x2, x3, x4, bX⟩ := run_new wr _ _ _ _ _ hX
   have SX := Lib.hid (S.out.below bX)
   have QX := Lib.hid (Q.out.up bX.size bX)
   have y0 := SX.out.wk
   clear hX bX q0 q1 q2 q3 q4 S Q
   have bad : ¬ RnOk ws r → d = 1 := fun hb => by
    rcases HCS.out with ⟨h, _⟩ | ⟨_, _, h⟩ | ⟨_, h, _⟩
    ·omega
    ·exact h
    ·exact absurd (h j r HR.out) hb
   have HBAD := Lib.hid bad
   clear bad
   by_cases m1 : r.mn < 1
   ·have E : Hid (d = 1) := Lib.hid (HBAD.out (fun h => by have := h.1.1; omega))
    go_wp2_with fail
    go_ret
    exact ⟨by rw [E.out]; try rfl, SX.out.bel⟩
   by_cases m2 : 1048576 < r.mn
   ·have E : Hid (d = 1) := Lib.hid (HBAD.out (fun h => by have := h.1.2; omega))
    go_wp2_with fail
    go_ret
    exact ⟨by rw [E.out]; try rfl, SX.out.bel⟩
   obtain ⟨bb, hbb⟩ : ∃ bb : Bool, bb = true ↔ WaOk ws r.wa := by
    by_cases h : WaOk ws r.wa
    ·exact ⟨true, by simp [h]⟩
    ·exact ⟨false, by simp [h]⟩
   have HBB := Lib.hid hbb
   clear hbb
   go_wp2_with fail
   refine (isWater_any A c _ ws r.wa bb _ (HK.out.up SX.out.bel.size SX.out.bel) QX.out HW.out HBB.out).mono ?_
   rintro e w5 ⟨rfl, b5⟩
   have S5 := Lib.hid (SX.out.below b5)
   clear b5 x0 x1 x2 x3 x4 y0
   cases bb
   ·have E : Hid (d = 1) := Lib.hid (HBAD.out (fun h => by have := HBB.out.2 h.2; cases this))
    go_wp2_with fail
    go_ret
    exact ⟨by rw [E.out]; try rfl, S5.out.bel⟩
   ·have G : Hid (RnOk ws r) := Lib.hid ⟨by omega, HBB.out.1 rfl⟩
    go_wp2_with fail
    go_roundw
    case rel => exact ⟨j + 1, by go_num, by omega, fun i r' hi hr' => by
     rcases Nat.lt_or_ge i j with h | h
     ·exact HP.out i r' h hr'
     ·obtain rfl : i = j := by omega
      have hrr := HR.out
      rw [hrr] at hr'
      cases hr'
      exact G.out, S5.out⟩
    case measure => show l.length - ((j : Int) + 1).toNat < l.length - (j : Int).toNat; omega
  ·have hj0 : (l.length : Int) ≤ (j : Int) := by omega
   have E : Hid (d = 0) := Lib.hid (by
    rcases HCS.out with ⟨h, _⟩ | ⟨_, h, _⟩ | ⟨_, _, h⟩
    ·omega
    ·exact absurd (fun i r hr => HP.out i r (by have := (List.getElem?_eq_some_iff.1 hr).1; omega) hr) h
    ·exact h)
   go_wp2_with fail
   go_ret
   exact ⟨by rw [E.out]; try rfl, S.out.bel⟩
end Go.Proofs.Ytkoacclbempmdaa

/- Contract of the program's Drunk. -/
namespace Go.Proofs.Ytkoacclbempmdaa
open Go.RowKit

/-- What the first runs of a course give an outlet. -/
def drunkAt (ws : Wk) (l : List Rn) (i : Nat) : Nat → Int
 | 0 => 0
 | j + 1 => drunkAt ws l i j + match l[j]? with | some r => (flowF ws r.wa).thr.getD i 0 * r.mn | none => 0
theorem drunkAt_succ {ws : Wk} {l : List Rn} (i : Nat) {j : Nat} {r : Rn} (h : l[j]? = some r) : drunkAt ws l i (j + 1) = drunkAt ws l i j + (flowF ws r.wa).thr.getD i 0 * r.mn := by rw [drunkAt, h]
def drunkL (ws : Wk) (l : List Rn) : List Int := (List.range (total ws)).map fun i => drunkAt ws l i l.length
theorem drunkL_len (ws : Wk) (l : List Rn) : (drunkL ws l).length = total ws := by simp [drunkL]
theorem thr_b {ws : Wk} (hw : WOk ws) {s : Wa} (hs : WaOk ws s) (i : Nat) : 0 ≤ (flowF ws s).thr.getD i 0 ∧ (flowF ws s).thr.getD i 0 ≤ 1048576 := by
 by_cases hi : i < total ws
 ·obtain ⟨x, hx⟩ : ∃ x, (flowF ws s).thr[i]? = some x := ⟨_, List.getElem?_eq_getElem (by rw [show (flowF ws s).thr.length = total ws from thr_len ws s _ (Nat.le_refl _)]; exact hi)⟩
  have := (FB.flow hs hw _ (Nat.le_refl _)).r x (List.mem_of_getElem? hx)
  rw [List.getD_eq_getElem?_getD, hx]
  exact this
 ·rw [List.getD_eq_getElem?_getD, List.getElem?_eq_none (by rw [show (flowF ws s).thr.length = total ws from thr_len ws s _ (Nat.le_refl _)]; omega)]
  exact ⟨by decide, by decide⟩
theorem mul_b {x m : Int} (h0 : 0 ≤ x) (h1 : x ≤ 1048576) (m0 : 0 ≤ m) (m1 : m ≤ 1048576) : 0 ≤ x * m ∧ x * m ≤ 1099511627776 := by
 refine ⟨Int.mul_nonneg h0 m0, ?_⟩
 have := Int.mul_le_mul h1 m1 m0 (by decide)
 omega
theorem drunk_b {ws : Wk} (hw : WOk ws) {l : List Rn} (hl : ∀ (j : Nat) (r : Rn), l[j]? = some r → RnOk ws r) (i : Nat) : ∀ j, 0 ≤ drunkAt ws l i j ∧ drunkAt ws l i j ≤ j * 1099511627776
 | 0 => by simp [drunkAt]
 | j + 1 => by
  have ih := drunk_b hw hl i j
  rw [drunkAt]
  split
  ·rename_i r hr
   obtain ⟨h1, h2⟩ := hl j r hr
   have hb := thr_b hw h2 i
   have := mul_b hb.1 hb.2 (m := r.mn) (by omega) (by omega)
   omega
  ·omega
/-- An array of numbers in a block. -/
structure SmA (g : Nat) (f : Nat → Int) (W : World) : Prop where
 c : ∀ i, i < 60 → W.cell? ⟨g, i, none⟩ = some (.int .i64 (f i))
 fz : ∀ i, W.frozen? ⟨g, i, none⟩ = false
theorem SmA.lt {g : Nat} {f : Nat → Int} {W : World} (h : SmA g f W) : g < W.heap.size := World.block_lt_of_cell? _ _ (h.c 0 (by decide))
theorem SmA.grown {g : Nat} {f : Nat → Int} {W W' : World} {bs : List Nat} (h : SmA g f W) (hg : GrownL bs W W') (hn : g ∉ bs) : SmA g f W' :=
 ⟨fun i hi => hg.cell (h.c i hi) hn, fun i => (World.frozen?_of_block (hg.block _ h.lt hn)).trans (h.fz i)⟩
theorem SmA.below {g : Nat} {f : Nat → Int} {W W' : World} (h : SmA g f W) (hb : Below W.heap.size W W') : SmA g f W' := h.grown (GrownL.of_below (bs := []) hb) (by simp)
theorem SmA.congr {g : Nat} {f f' : Nat → Int} {W : World} (h : SmA g f W) (hf : ∀ i, i < 60 → f' i = f i) : SmA g f' W := ⟨fun i hi => by rw [hf i hi]; exact h.c i hi, h.fz⟩
theorem SmA.set {g : Nat} {f : Nat → Int} {W : World} (h : SmA g f W) {k : Nat} (hk : k < 60) (x : Int) : SmA g (fun i => if i = k then x else f i) (W.setCell ⟨g, k, none⟩ (.int .i64 x)) := by
 refine ⟨fun i hi => ?_, fun i => (World.frozen?_setCell _ _ _ _).trans (h.fz i)⟩
 by_cases e : i = k
 ·subst e
  simp only [if_pos]
  exact World.cell?_setCell_same' _ _ _ (by rw [h.c i hi]; rfl)
 ·simp only [if_neg e]
  exact (World.cell?_setCell_other _ ⟨g, k, none⟩ ⟨g, i, none⟩ _ (by simp <;> omega)).trans (h.c i hi)
set_option maxRecDepth 1000000 in
theorem SmA.zero (W : World) {X : World} (hX : W.alloc (.cells #[.int .i64 0, .int .i64 0, .int .i64 0, .int .i64 0, .int .i64 0, .int .i64 0, .int .i64 0, .int .i64 0, .int .i64 0, .int .i64 0, .int .i64 0, .int .i64 0, .int .i64 0, .int .i64 0, .int .i64 0, .int .i64 0, .int .i64 0, .int .i64 0, .int .i64 0, .int .i64 0, .int .i64 0, .int .i64 0, .int .i64 0, .int .i64 0, .int .i64 0, .int .i64 0, .int .i64 0, .int .i64 0, .int .i64 0, .int .i64 0, .int .i64 0, .int .i64 0, .int .i64 0, .int .i64 0, .int .i64 0, .int .i64 0, .int .i64 0, .int .i64 0, .int .i64 0, .int .i64 0, .int .i64 0, .int .i64 0, .int .i64 0, .int .i64 0, .int .i64 0, .int .i64 0, .int .i64 0, .int .i64 0, .int .i64 0, .int .i64 0, .int .i64 0, .int .i64 0, .int .i64 0, .int .i64 0, .int .i64 0, .int .i64 0, .int .i64 0, .int .i64 0, .int .i64 0, .int .i64 0] 120) = X) : SmA W.heap.size (fun _ => 0) X ∧ Below W.heap.size W X := by
 subst hX
 rw [show (#[.int .i64 0, .int .i64 0, .int .i64 0, .int .i64 0, .int .i64 0, .int .i64 0, .int .i64 0, .int .i64 0, .int .i64 0, .int .i64 0, .int .i64 0, .int .i64 0, .int .i64 0, .int .i64 0, .int .i64 0, .int .i64 0, .int .i64 0, .int .i64 0, .int .i64 0, .int .i64 0, .int .i64 0, .int .i64 0, .int .i64 0, .int .i64 0, .int .i64 0, .int .i64 0, .int .i64 0, .int .i64 0, .int .i64 0, .int .i64 0, .int .i64 0, .int .i64 0, .int .i64 0, .int .i64 0, .int .i64 0, .int .i64 0, .int .i64 0, .int .i64 0, .int .i64 0, .int .i64 0, .int .i64 0, .int .i64 0, .int .i64 0, .int .i64 0, .int .i64 0, .int .i64 0, .int .i64 0, .int .i64 0, .int .i64 0, .int .i64 0, .int .i64 0, .int .i64 0, .int .i64 0, .int .i64 0, .int .i64 0, .int .i64 0, .int .i64 0, .int .i64 0, .int .i64 0, .int .i64 0] : Array Value) = Array.replicate 60 (.int .i64 0) from rfl]
 have hb := World.alloc_heap_new W (.cells (Array.replicate 60 (.int .i64 0)) 120)
 refine ⟨⟨fun i hi => ?_, fun i => by unfold World.frozen?; rw [hb]; simp⟩, (Below.refl _ _).alloc (Nat.le_refl _) _⟩
 rw [cell_of_row _ _ i _ _ _ hb]
 simp [hi]

set_option maxHeartbeats 8000000 in
set_option maxRecDepth 1000000 in
theorem Drunk_any (v lv : Value) (ws : Wk) (l : List Rn) (d : Int) (w : World) (h : RK w.heap.size v ws w) (ht : total ws ≤ 100000) (hl : RN w.heap.size lv l w) (hd : CourseIs ws l d) :
  Calls Try.prog 41 #[.agg #[v], lv] w fun e w' => ∃ u, e = .returned (.tuple #[u, .int .i64 d]) ∧ OwnG encI 1 3 w.heap.size u (okL d (drunkL ws l)) w' ∧ Below w.heap.size w w' := by
 obtain ⟨A, c, rfl, -⟩ := (show ∃ A c, v = .slice A ws.length c ∧ True by obtain ⟨A, c, e, _⟩ := h; exact ⟨A, c, e, trivial⟩)
 obtain ⟨Al, cl, rfl⟩ := hl.form
 have C1 := Lib.hid fun W (hb : Below w.heap.size w W) => checkCourse_any (.slice A ws.length c) _ ws l d W (h.up hb.size hb) ht (hl.up hb.size hb) hd
 have HK := Lib.hid h
 have HL := Lib.hid hl
 have HD := Lib.hid hd
 have S0 := Lib.hid (WC1.new w (.slice A ws.length c))
 clear h hl hd
 go_enter Try.func41, Try.ntmps41
 go_wp2_with fail
 refine (C1.out _ S0.out.bel).mono ?_
 rintro e w1 ⟨rfl, b1⟩
 have S := Lib.hid (S0.out.below b1)
 clear b1 C1 S0
 by_cases hd0 : d = 0
 rotate_left
 ·have hdb : (d != 0) = true := by rw [bne_iff_ne]; exact hd0
  have H0 := Lib.hid hd0
  go_wp2_with fail
  refine bodyPost_ret (results_tmp2 rfl _ _ _) rfl ?_
  exact ⟨_, rfl, by rw [okL_ne H0.out]; exact OwnG.nil _ _ _ _ _, S.out.bel⟩
 subst hd0
 have hok : WOk ws ∧ l.length ≤ 60 ∧ ∀ (j : Nat) (r : Rn), l[j]? = some r → RnOk ws r := by
  rcases HD.out with ⟨_, h⟩ | ⟨_, _, h⟩ | ⟨_, _, _, h⟩ | ⟨h, h1, h2, _⟩
  ·exact absurd rfl h
  ·omega
  ·omega
  ·exact ⟨h.ok, h1, h2⟩
 have HOK := Lib.hid hok
 have hl60 : (l.length : Int) ≤ 60 := by have := hok.2.1; omega
 clear hok
 go_upto_region 5 with fail
 obtain ⟨W2, hW2⟩ : ∃ W, w1.alloc (.cells #[.int .i64 0, .int .i64 0, .int .i64 0, .int .i64 0, .int .i64 0, .int .i64 0, .int .i64 0, .int .i64 0, .int .i64 0, .int .i64 0, .int .i64 0, .int .i64 0, .int .i64 0, .int .i64 0, .int .i64 0, .int .i64 0, .int .i64 0, .int .i64 0, .int .i64 0, .int .i64 0, .int .i64 0, .int .i64 0, .int .i64 0, .int .i64 0, .int .i64 0, .int .i64 0, .int .i64 0, .int .i64 0, .int .i64 0, .int .i64 0, .int .i64 0, .int .i64 0, .int .i64 0, .int .i64 0, .int .i64 0, .int .i64 0, .int .i64 0, .int .i64 0, .int .i64 0, .int .i64 0, .int .i64 0, .int .i64 0, .int .i64 0, .int .i64 0, .int .i64 0, .int .i64 0, .int .i64 0, .int .i64 0, .int .i64 0, .int .i64 0, .int .i64 0, .int .i64 0, .int .i64 0, .int .i64 0, .int .i64 0, .int .i64 0, .int .i64 0, .int .i64 0, .int .i64 0, .int .i64 0] 120) = W := ⟨_, rfl⟩
 obtain ⟨hA, b2⟩ := SmA.zero _ hW2
 rw [hW2]
 have S2 := Lib.hid (S.out.below b2)
 have A2 := Lib.hid hA
 have HG : Hid (w.heap.size + 1 ≤ w1.heap.size) := Lib.hid S.out.siz
 obtain ⟨g, hg⟩ : ∃ g, w1.heap.size = g := ⟨_, rfl⟩
 rw [hg] at A2 HG ⊢
 clear hW2 b2 hA hg S
 go_wp2_with fail
 go_loopw [21] (fun a wr => ∃ j : Nat, a = .int .i64 j ∧ j ≤ l.length ∧ SmA g (fun i => drunkAt ws l i j) wr ∧ WC1 w (.slice A ws.length c) wr) (fun a _ => l.length - (intOf a).toNat)
 case atStart => exact ⟨0, rfl, by omega, A2.out, S2.out⟩
 case round =>
  obtain ⟨j, rfl, hj, hA, hS⟩ := hrel
  obtain ⟨wo, rfl⟩ : ∃ wo, wo = wr := ⟨_, rfl⟩
  have S := Lib.hid hS
  have AS := Lib.hid hA
  have HGO := Lib.hid hA.lt
  clear hS hA S2 A2
  by_cases hjl : j < l.length
  ·have hj0 : (j : Int) < (l.length : Int) := by omega
   obtain ⟨r, hr⟩ : ∃ r, l[j]? = some r := ⟨_, List.getElem?_eq_getElem hjl⟩
   have HR := Lib.hid hr
   obtain ⟨b, o, rfl, hlt, q0, A1, c1, A2, c2, A3, c3, A4, c4, q1, q2, q3, q4, q5⟩ := rn_at (HL.out.up S.out.bel.size S.out.bel) hr
   have Q := Lib.hid q5
   clear q5 hr
   go_upto_region 8 with fail
   obtain ⟨X, hX⟩ : ∃ X, wo.alloc (.cells #[.int .i64 r.mn, .slice A1 r.wa.river.length c1, .slice A2 r.wa.boards.length c2, .slice A3 r.wa.leaks.length c3, .slice A4 r.wa.losses.length c4] 78) = X := ⟨_, rfl⟩
   rw [hX]
   obtain ⟨x0, x1, x2, x3, x4, bX⟩ := run_new wo _ _ _ _ _ hX
   have SX := Lib.hid (S.out.below bX)
   have AX := Lib.hid (AS.out.below bX)
   have QX := Lib.hid (Q.out.up bX.size bX)
   have y0 := SX.out.wk
   have X0 := Lib.hid x0
   clear hX bX q0 q1 q2 q3 q4 S Q AS
   have HOR := Lib.hid (HOK.out.2.2 j r HR.out)
   go_wp2_with fail
   refine (run_any A c _ ws r.wa _ (HK.out.up SX.out.bel.size SX.out.bel) QX.out HOK.out.1 HOR.out.2).mono ?_
   rintro e w5 ⟨rfl, b5⟩
   have S5 := Lib.hid (SX.out.below b5)
   have A5 := Lib.hid (AX.out.below b5)
   have X5 := Lib.hid (BelS.c b5 X0.out)
   clear b5 x0 x1 x2 x3 x4 y0 SX AX X0
   obtain ⟨F, hF⟩ : ∃ F, flowF ws r.wa = F := ⟨_, rfl⟩
   have HF := Lib.hid hF
   rw [hF]
   clear hF
   obtain ⟨W6, r6, f6, b6⟩ := stream_box F w5
   have R6 := Lib.hid r6
   have F6 := Lib.hid f6
   have S6 := Lib.hid (S5.out.below b6)
   have A6 := Lib.hid (A5.out.below b6)
   have X6 := Lib.hid (BelS.c b6 X5.out)
   have HGW : Hid (g < wo.heap.size) := Lib.hid HGO.out
   have HPQ : Hid (wo.heap.size < w5.heap.size) := Lib.hid (World.block_lt_of_cell? _ _ X5.out)
   have hln := fsL_len F
   clear r6 f6 b6 S5 A5 X5
   go_wp2_with fail
   rw [R6.out]
   have hgp : g < wo.heap.size := HGW.out
   have hpq : wo.heap.size < w5.heap.size := HPQ.out
   have rl := run_loadAt_mid (P := Try.prog) W6 w5.heap.size 0 120 (thrL F) _ (fun i v hi => by
    have h60 : i < 60 := by have := (List.getElem?_eq_some_iff.1 hi).1; simpa [thrL] using this
    unfold thrL at hi
    rw [List.getElem?_map, List.getElem?_range h60] at hi
    cases hi
    rw [Nat.zero_add]
    exact F6.out.thr i h60) Try.underlying120 rfl (by rw [show (thrL F).length = 60 by simp [thrL]]; kernel_rfl)
   have RL := Lib.hid rl
   clear rl
   go_upto_region 9 with fail
   go_step
   refine wpList_plain rfl fun Kx hKx => ?_
   go_step
   refine hKx _ _ ?_
   refine wpList_plain rfl fun Ky hKy => ?_
   refine wp_load_run 120 _ rfl (u := .pointer (some ⟨w5.heap.size, 0, none⟩)) rfl RL.out ?_
   refine hKy _ _ ?_
   clear hKx hKy Kx Ky
   simp only [aS]
   go_wp2_with fail
   go_loopw [31] (fun a wr => ∃ k : Nat, a = .int .i64 k ∧ k ≤ 60 ∧ SmA g (fun i => if i < k then drunkAt ws l i (j + 1) else drunkAt ws l i j) wr ∧ WC1 w (.slice A ws.length c) wr ∧ wr.cell? ⟨wo.heap.size, 0, none⟩ = some (.int .i64 r.mn)) (fun a _ => 60 - (intOf a).toNat)
   case atStart => exact ⟨0, rfl, by omega, A6.out.congr (fun i _ => by simp), S6.out, X6.out⟩
   case round =>
    obtain ⟨k, rfl, hk, hA, hS, hX⟩ := hrel
    have S := Lib.hid hS
    have AS := Lib.hid hA
    have XS := Lib.hid hX
    clear hS hA hX RL
    by_cases hkl : k < 60
    ·have hk0 : (k : Int) < 60 := by omega
     have fa := fs_at F k hkl
     have q0 := XS.out
     have q1 := AS.out.c k hkl
     have q2 := AS.out.fz k
     simp only [Nat.lt_irrefl, if_false] at q1
     have hb1 := thr_b HOK.out.1 HOR.out.2 k
     rw [HF.out] at hb1
     have hb2 := drunk_b HOK.out.1 HOK.out.2.2 k j
     have hb3 := mul_b hb1.1 hb1.2 (m := r.mn) (by have := HOR.out.1; omega) (by have := HOR.out.1; omega)
     obtain ⟨f, hf⟩ : ∃ f, F.thr.getD k 0 = f := ⟨_, rfl⟩
     obtain ⟨z, hz⟩ : ∃ z, drunkAt ws l k j = z := ⟨_, rfl⟩
     rw [hf] at hb1 hb3 fa
     rw [hz] at hb2 q1
     have HFF := Lib.hid hf
     have HZZ := Lib.hid hz
     clear hf hz
     have hw1 : IntKind.i64.wrap (f * r.mn) = f * r.mn := IntWalk.i64_in _ (by omega)
     have hjb : (j : Int) ≤ 60 := by omega
     have hw2 : IntKind.i64.wrap (z + f * r.mn) = z + f * r.mn := IntWalk.i64_in _ (by omega)
     go_upto_region 12 with fail
     go_region
     obtain ⟨Y, hY⟩ : ∃ Y, wr.setCell ⟨g, k, none⟩ (.int .i64 (z + f * r.mn)) = Y := ⟨_, rfl⟩
     have gY : GrownL [g] wr Y := by rw [← hY]; exact GrownL.set _ _ _ (by simp)
     have aY := AS.out.set hkl (z + f * r.mn)
     rw [hY] at aY ⊢
     have hgw := HG.out
     have SY : Hid (WC1 w (.slice A ws.length c) Y) := Lib.hid ⟨gY.cell S.out.wk (by simp; omega), S.out.bel.trans (gY.below (by simp; omega) S.out.bel.size)⟩
     have AY := Lib.hid aY
     have XY := Lib.hid (gY.cell XS.out (by simp; omega))
     clear hY gY aY q0 q1 q2 fa hw1 hw2
     go_wp2_with fail
     go_roundw
     case rel => exact ⟨k + 1, by go_num, by omega, (AY.out.below (Below.refl _ _).drew).congr (fun i hi => by
      by_cases e : i = k
      ·subst e
       rw [if_pos (by omega), if_pos rfl, drunkAt_succ _ HR.out, HF.out, HFF.out, HZZ.out]
      ·rw [if_neg e]
       by_cases e2 : i < k
       ·rw [if_pos e2, if_pos (by omega)]
       ·rw [if_neg e2, if_neg (by omega)]), SY.out.below (Below.refl _ _).drew, BelS.c (Below.refl _ _).drew XY.out⟩
     case measure => show 60 - ((k : Int) + 1).toNat < 60 - (k : Int).toNat; omega
    ·have hk0 : (60 : Int) ≤ (k : Int) := by omega
     go_wp2_with fail
     go_roundw
     case rel => exact ⟨j + 1, by go_num, by omega, AS.out.congr (fun i hi => by rw [if_pos (by omega)]), S.out⟩
     case measure => show l.length - ((j : Int) + 1).toNat < l.length - (j : Int).toNat; omega
  ·have hj0 : (l.length : Int) ≤ (j : Int) := by omega
   obtain rfl : j = l.length := by omega
   have C3 := Lib.hid fun W (hb : Below w.heap.size w W) => count_any A ws.length c ws W (HK.out.up hb.size hb) (by omega)
   have x0 := S.out.wk
   go_upto_region 15 with fail
   refine wp_region_held_drew (S := BelS wo) (by kernel_rfl) (BelS.drew0 _) (fun J0 => ?_)
   refine tw 0 46 J0 ?_ (hy := by intro w' hSw; have q0 := hSw.c x0; go_simp; try with_reducible rfl)
   try simp only [aS]
   refine tw 1 47 J0 ?_ (hy := by intro w' hSw; have q0 := hSw.c x0; go_simp; try with_reducible rfl)
   try simp only [aS]
   refine wpAnyH_ready (rs := [2]) (by kernel_rfl) (by simp) ?_
   refine AllReadyH.cons rfl (fun K hK => ?_) AllReadyH.nil
   go_simp
   refine (C3.out _ (S.out.bel.trans ((BelS.b J0).mono S.out.bel.size))).mono ?_
   rintro e wq1 ⟨rfl, hq1⟩
   have J1 := J0.below hq1
   clear hq1
   refine hK.out _ _ J1 (fun _ => ?_)
   clear hK
   try simp only [aS]
   refine wpAnyH_ready (rs := [3]) (by kernel_rfl) (by simp) ?_
   refine AllReadyH.cons rfl (fun K hK => ?_) AllReadyH.nil
   go_simp
   have AE := AS.out.below (BelS.b J1)
   have hr60 : RR encI wq1.heap.size (.slice (some ⟨g, 0, none⟩) ((List.range 60).map fun i => drunkAt ws l i l.length).length 60) ((List.range 60).map fun i => drunkAt ws l i l.length) wq1 := by
    rw [show ((List.range 60).map fun i => drunkAt ws l i l.length).length = 60 by simp]
    exact rr_of_cells (by simp) (by decide) AE.lt (fun i x hx => by
     have hi : i < 60 := by simpa using (List.getElem?_eq_some_iff.1 hx).1
     rw [List.getElem?_map, List.getElem?_range hi] at hx
     cases hx
     rw [Nat.zero_add]
     exact AE.c i hi) 60
   have htt := HOK.out.1.tot
   refine (cutI_any _ 60 (total ws) ((List.range 60).map fun i => drunkAt ws l i l.length) _ hr60 (by simp; omega) (by simp) (by omega)).mono ?_
   rintro e wq2 ⟨u, rfl, hu, hq2⟩
   have J2 := J1.below hq2
   have HU : Hid (OwnG encI 1 3 w.heap.size u (drunkL ws l) wq2) := Lib.hid (by
    have e1 : ((List.range 60).map fun i => drunkAt ws l i l.length).take (total ws) = drunkL ws l := by
     rw [← List.map_take, List.take_range, Nat.min_eq_left (by omega)]
     rfl
    rw [e1] at hu
    exact hu.low (by have h1 := (BelS.b J1).size; have h2 := S.out.siz; omega))
   clear hu hq2 hr60 AE
   refine hK.out _ _ J2 (fun _ => ?_)
   clear hK
   try simp only [aS]
   refine tw 4 4 J2 ?_ (hy := by intro w' hSw; have q0 := hSw.c x0; go_simp; try with_reducible rfl)
   try simp only [aS]
   refine tw 5 5 J2 ?_ (hy := by intro w' hSw; have q0 := hSw.c x0; go_simp; try with_reducible rfl)
   try simp only [aS]
   refine wpAnyH_done (by kernel_rfl) ?_ _
   have BE := Lib.hid (S.out.bel.trans ((BelS.b J2).mono S.out.bel.size))
   clear J0 J1 J2 x0
   go_wp2_with fail
   refine bodyPost_ret (results_tmp2 rfl _ _ _) rfl ?_
   exact ⟨_, rfl, by rw [okL_zero]; exact HU.out, BE.out⟩
end Go.Proofs.Ytkoacclbempmdaa

/- Courses as rows that can be copied; what parts of a course give (mathematics). -/
namespace Go.Proofs.Ytkoacclbempmdaa
open Go.RowKit

/-- What a run gives an outlet. -/
def runF (ws : Wk) (i : Nat) (r : Rn) : Int := (flowF ws r.wa).thr.getD i 0 * r.mn
theorem drunk_sum (ws : Wk) (l : List Rn) (i : Nat) : ∀ j, drunkAt ws l i j = ((l.take j).map (runF ws i)).sum
 | 0 => by simp [drunkAt]
 | j + 1 => by
  rw [drunkAt, drunk_sum ws l i j]
  cases h : l[j]? with
  | none =>
   have hl : l.length ≤ j := List.getElem?_eq_none_iff.1 h
   rw [List.take_of_length_le hl, List.take_of_length_le (by omega)]
   simp
  | some r =>
   rw [take_at h, List.map_append, List.sum_append]
   simp [runF]
theorem drunk_all (ws : Wk) (l : List Rn) (i : Nat) : drunkAt ws l i l.length = (l.map (runF ws i)).sum := by rw [drunk_sum, List.take_of_length_le (Nat.le_refl _)]
/-- What a course gives is the sum of its two parts. -/
theorem drunk_parts (ws : Wk) (l : List Rn) (k i : Nat) : drunkAt ws (l.take k) i (l.take k).length + drunkAt ws (l.drop k) i (l.drop k).length = drunkAt ws l i l.length := by
 rw [drunk_all, drunk_all, drunk_all, ← List.sum_append, ← List.map_append, List.take_append_drop]
/-- A course whose run k is cut into two. -/
def cutR (l : List Rn) (k : Nat) (r : Rn) (n : Int) : List Rn := l.take k ++ [(⟨n, r.wa⟩ : Rn), (⟨r.mn - n, r.wa⟩ : Rn)] ++ l.drop (k + 1)
/-- A run may be cut into two. -/
theorem drunk_cut (ws : Wk) {l : List Rn} {k : Nat} {r : Rn} (h : l[k]? = some r) (n : Int) (i : Nat) :
  drunkAt ws (cutR l k r n) i (cutR l k r n).length = drunkAt ws l i l.length := by
 have hl : l = l.take k ++ [r] ++ l.drop (k + 1) := by rw [← take_at h, List.take_append_drop]
 rw [drunk_all, drunk_all]
 unfold cutR
 conv => rhs; rw [hl]
 simp only [List.map_append, List.sum_append, List.map_cons, List.map_nil, List.sum_cons, List.sum_nil]
 have : runF ws i ⟨n, r.wa⟩ + runF ws i ⟨r.mn - n, r.wa⟩ = runF ws i r := by
  unfold runF
  simp only
  rw [← Int.mul_add]
  congr 1
  omega
 omega
theorem drunkL_parts (ws : Wk) (l : List Rn) (k : Nat) {i : Nat} (hi : i < total ws) : ∃ x y, (drunkL ws (l.take k))[i]? = some x ∧ (drunkL ws (l.drop k))[i]? = some y ∧ (drunkL ws l)[i]? = some (x + y) := by
 unfold drunkL
 simp only [List.getElem?_map, List.getElem?_range hi, Option.map_some]
 exact ⟨_, _, rfl, rfl, by rw [drunk_parts]⟩
theorem drunkL_cut (ws : Wk) {l : List Rn} {k : Nat} {r : Rn} (h : l[k]? = some r) (n : Int) : drunkL ws (cutR l k r n) = drunkL ws l := by
 unfold drunkL
 exact List.map_congr_left fun i _ => drunk_cut ws h n i

/-- A run, and where the lists of its water lie. -/
structure Rr where
 r : Rn
 A1 : Option Addr
 c1 : Nat
 A2 : Option Addr
 c2 : Nat
 A3 : Option Addr
 c3 : Nat
 A4 : Option Addr
 c4 : Nat
def Rr.cells (x : Rr) : List Value := [.slice x.A1 x.r.wa.river.length x.c1, .slice x.A2 x.r.wa.boards.length x.c2, .slice x.A3 x.r.wa.leaks.length x.c3, .slice x.A4 x.r.wa.losses.length x.c4]
def encRr (x : Rr) : List Value := .int .i64 x.r.mn :: x.cells
theorem ERr : Enc encRr 5 := ⟨by decide, fun _ => rfl, fun x u hu => by simp [encRr, Rr.cells] at hu; rcases hu with rfl | rfl | rfl | rfl | rfl <;> rfl⟩
/-- The water of a run reads. -/
def Rr.ok (B : Nat) (w : World) (x : Rr) : Prop := RWa B (.agg #[.slice x.A1 x.r.wa.river.length x.c1, .slice x.A2 x.r.wa.boards.length x.c2, .slice x.A3 x.r.wa.leaks.length x.c3, .slice x.A4 x.r.wa.losses.length x.c4]) x.r.wa w
theorem rr_list {B b o : Nat} {w : World} : ∀ (l : List Rn) (_ : ∀ (k : Nat) x, l[k]? = some x → RnAt B b (o + k * 5) x w), ∃ X : List Rr, X.map (·.r) = l ∧ (∀ x ∈ X, x.ok B w) ∧ ∀ (j : Nat) u, (X.flatMap encRr)[j]? = some u → w.cell? ⟨b, o + j, none⟩ = some u
 | [], _ => ⟨[], rfl, by simp, by simp⟩
 | r :: l, h => by
  have h0 := h 0 r rfl
  rw [Nat.zero_mul, Nat.add_zero] at h0
  obtain ⟨q0, u0, u1, u2, u3, q1, q2, q3, q4, q5⟩ := h0
  obtain ⟨A1, c1, A2, c2, A3, c3, A4, c4, e⟩ := q5.form
  simp only [Value.agg.injEq, Array.mk.injEq, List.cons.injEq, and_true] at e
  obtain ⟨rfl, rfl, rfl, rfl⟩ := e
  obtain ⟨X, hX, hok, hc⟩ := rr_list (o := o + 5) l (fun k x hk => by have := h (k + 1) x hk; rwa [show o + (k + 1) * 5 = o + 5 + k * 5 by omega] at this)
  refine ⟨⟨r, A1, c1, A2, c2, A3, c3, A4, c4⟩ :: X, by simp [hX], fun x hx => ?_, fun j u hj => ?_⟩
  ·rcases List.mem_cons.1 hx with rfl | hx
   ·exact q5
   ·exact hok x hx
  ·rw [List.flatMap_cons] at hj
   match j, hj with
   | 0, hj => simp [encRr, Rr.cells] at hj; subst hj; exact q0
   | 1, hj => simp [encRr, Rr.cells] at hj; subst hj; exact q1
   | 2, hj => simp [encRr, Rr.cells] at hj; subst hj; exact q2
   | 3, hj => simp [encRr, Rr.cells] at hj; subst hj; exact q3
   | 4, hj => simp [encRr, Rr.cells] at hj; subst hj; exact q4
   | j + 5, hj =>
    rw [List.getElem?_append_right (by show 5 ≤ j + 5; omega)] at hj
    have := hc j u (by rwa [show j + 5 - (encRr _).length = j by show j + 5 - 5 = j; omega] at hj)
    rwa [show o + (j + 5) = o + 5 + j by omega]
/-- A course as a row. -/
theorem RN.rr {B : Nat} {v : Value} {l : List Rn} {w : World} (h : RN B v l w) : ∃ X : List Rr, X.map (·.r) = l ∧ RR encRr B v X w ∧ ∀ x ∈ X, x.ok B w := by
 obtain ⟨A, c, e, hl, hc⟩ := h
 by_cases hp : 0 < l.length
 ·obtain ⟨b, o, e1, e2, hh⟩ := hc hp
  obtain ⟨X, hX, hok, hcs⟩ := rr_list l hh
  have hXl : X.length = l.length := by rw [← hX, List.length_map]
  exact ⟨X, hX, ⟨A, c, by rw [hXl]; exact e, by rw [hXl]; exact hl, fun _ => ⟨b, o, e1, e2, hcs⟩⟩, hok⟩
 ·have : l = [] := List.length_eq_zero_iff.1 (by omega)
  subst this
  exact ⟨[], rfl, ⟨A, c, e, hl, fun h => absurd h (by simp)⟩, by simp⟩
/-- A row as a course. -/
theorem RN.of {B : Nat} {v : Value} {X : List Rr} {w : World} (h : RR encRr B v X w) (hok : ∀ x ∈ X, x.ok B w) : RN B v (X.map (·.r)) w := by
 obtain ⟨A, c, e, hl, hc⟩ := h
 refine ⟨A, c, by rw [List.length_map]; exact e, by rw [List.length_map]; exact hl, fun hp => ?_⟩
 obtain ⟨b, o, e1, e2, hh⟩ := hc (by rwa [List.length_map] at hp)
 refine ⟨b, o, e1, e2, fun k r hk => ?_⟩
 rw [List.getElem?_map] at hk
 cases hx : X[k]? with
 | none => rw [hx] at hk; cases hk
 | some x =>
  rw [hx] at hk
  cases hk
  have at_ := fun i (hi : i < 5) => ERr.at_ X k i x hx hi
  have cl := fun i u (hi : i < 5) (hu : (encRr x)[i]? = some u) => hh (k * 5 + i) u ((at_ i hi).trans hu)
  refine ⟨by have := cl 0 _ (by decide) rfl; rwa [Nat.add_zero] at this, _, _, _, _, by have := cl 1 _ (by decide) rfl; rwa [← Nat.add_assoc] at this, by have := cl 2 _ (by decide) rfl; rwa [← Nat.add_assoc] at this, by have := cl 3 _ (by decide) rfl; rwa [← Nat.add_assoc] at this, by have := cl 4 _ (by decide) rfl; rwa [← Nat.add_assoc] at this, hok x (List.mem_of_getElem? hx)⟩
/-- The rest of a row, behind its first elements. -/
theorem RR.drop {α : Type} {enc : α → List Value} {s : Nat} (E : Enc enc s) {B n c : Nat} {b o : Nat} {l : List α} {w : World} (h : RR enc B (.slice (some ⟨b, o, none⟩) n c) l w) (k : Nat) (hk : k < l.length) : RR enc B (.slice (some ⟨b, o + k * s, none⟩) (l.drop k).length (c - k)) (l.drop k) w := by
 obtain ⟨A, c', e, hl, hc⟩ := h
 obtain ⟨b', o', e1, e2, hh⟩ := hc (by omega)
 simp only [Value.slice.injEq] at e
 obtain ⟨e3, -, -⟩ := e
 rw [← e3] at e1
 simp only [Option.some.injEq, Addr.mk.injEq] at e1
 obtain ⟨rfl, rfl, -⟩ := e1
 refine ⟨_, _, rfl, Nat.le_trans (by rw [List.length_drop]; omega) hl, fun _ => ⟨b, o + k * s, rfl, e2, fun j u hj => ?_⟩⟩
 have hfl : ((l.take k).flatMap enc).length = k * s := by rw [E.size, List.length_take]; congr 1; omega
 have : (l.flatMap enc)[k * s + j]? = some u := by
  conv => lhs; rw [← List.take_append_drop k l]
  rw [List.flatMap_append, List.getElem?_append_right (by omega), hfl, Nat.add_sub_cancel_left]
  exact hj
 have := hh (k * s + j) u this
 rwa [← Nat.add_assoc] at this
end Go.Proofs.Ytkoacclbempmdaa

/- How a course that came in is opened. -/
namespace Go.Proofs.Ytkoacclbempmdaa
open Go.ChangeShapes Go.WideShapes Go.ChangeAt Go.RowKit Go.Joins
instance : Inhabited Rn := ⟨⟨0, ⟨[], [], [], []⟩⟩⟩
theorem qcellsR : Try.prog.cellsOf 78 = 5 := by kernel_rfl
theorem pbR : 0 < Try.prog.bytesOf 78 := by decide +kernel
section
variable {H : Type} {enc : TypeId × Value → H} {W : World} {base : Nat} {sp : Nat → Bool}
set_option maxRecDepth 100000 in
set_option maxHeartbeats 1000000 in
/-- Water in its cells. -/
theorem wat_of {fuel : Nat} {u0 u1 u2 u3 : Value} {x : DataW H × List MemPlace} (h2 : DataW.trod enc Try.prog W base sp true fuel 27 [u0, u1, u2, u3] = some x) (hw : WB 27 x.1) : ∃ s : Wa, RWa W.heap.size (.agg #[u0, u1, u2, u3]) s W := by
 obtain ⟨xs, m, _, ex, _, hxl, hf⟩ := DataW.trod_struct Try.underlying27 h2
 obtain ⟨x0, e0⟩ : ∃ y, xs[0]? = some y := ⟨_, List.getElem?_eq_getElem (by rw [hxl]; decide)⟩
 obtain ⟨x1, e1⟩ : ∃ y, xs[1]? = some y := ⟨_, List.getElem?_eq_getElem (by rw [hxl]; decide)⟩
 obtain ⟨x2, e2⟩ : ∃ y, xs[2]? = some y := ⟨_, List.getElem?_eq_getElem (by rw [hxl]; decide)⟩
 obtain ⟨x3, e3⟩ : ∃ y, xs[3]? = some y := ⟨_, List.getElem?_eq_getElem (by rw [hxl]; decide)⟩
 have q0 : DataW.trod enc Try.prog W base sp true m 25 (([u0, u1, u2, u3].drop 0).take (Try.prog.cellsOf 25)) = xs[0]? := hf 0 _ rfl
 have q1 : DataW.trod enc Try.prog W base sp true m 25 (([u0, u1, u2, u3].drop 1).take (Try.prog.cellsOf 25)) = xs[1]? := hf 1 _ rfl
 have q2 : DataW.trod enc Try.prog W base sp true m 25 (([u0, u1, u2, u3].drop 2).take (Try.prog.cellsOf 25)) = xs[2]? := hf 2 _ rfl
 have q3 : DataW.trod enc Try.prog W base sp true m 25 (([u0, u1, u2, u3].drop 3).take (Try.prog.cellsOf 25)) = xs[3]? := hf 3 _ rfl
 rw [qcellsI, e0] at q0
 rw [qcellsI, e1] at q1
 rw [qcellsI, e2] at q2
 rw [qcellsI, e3] at q3
 rw [ex] at hw
 have hw' := hw.agg Try.underlying27
 obtain ⟨A0, c0, l0, rfl, r0⟩ := ints_open q0 (hw' 0 _ x0.1 rfl (by rw [List.getElem?_map, e0]; rfl))
 obtain ⟨A1, c1, l1, rfl, r1⟩ := ints_open q1 (hw' 1 _ x1.1 rfl (by rw [List.getElem?_map, e1]; rfl))
 obtain ⟨A2, c2, l2, rfl, r2⟩ := ints_open q2 (hw' 2 _ x2.1 rfl (by rw [List.getElem?_map, e2]; rfl))
 obtain ⟨A3, c3, l3, rfl, r3⟩ := ints_open q3 (hw' 3 _ x3.1 rfl (by rw [List.getElem?_map, e3]; rfl))
 exact ⟨⟨l0, l1, l2, l3⟩, _, _, _, _, rfl, r0.rr, r1.rr, r2.rr, r3.rr⟩
set_option maxRecDepth 100000 in
set_option maxHeartbeats 1000000 in
/-- Runs. -/
theorem runs_row {fuel : Nat} {v : Value} {y : DataW H × List MemPlace} (h : DataW.trod enc Try.prog W base sp true fuel 74 [v] = some y) (hw : WB 74 y.1) : ∃ l : List Rn, RN W.heap.size v l W := by
 obtain ⟨A, c, l, e, hf, hr⟩ := row_open (α := Rn) Try.underlying74 qcellsR (by decide) pbR (fun x b o => RnAt W.heap.size b o x W) (fun fuel a x hwx hx => by
  obtain ⟨cs, hl, hc, h2⟩ := cells_of hx
  obtain ⟨xs, m, _, ex, _, hxl, hf⟩ := DataW.trod_struct Try.underlying78 h2
  match cs, hl with
  | [u0, u1, u2, u3, u4], _ =>
   obtain ⟨x0, e0⟩ : ∃ y, xs[0]? = some y := ⟨_, List.getElem?_eq_getElem (by rw [hxl]; decide)⟩
   obtain ⟨x1, e1⟩ : ∃ y, xs[1]? = some y := ⟨_, List.getElem?_eq_getElem (by rw [hxl]; decide)⟩
   have q0 : DataW.trod enc Try.prog W base sp true m 3 (([u0, u1, u2, u3, u4].drop 0).take (Try.prog.cellsOf 3)) = xs[0]? := hf 0 _ rfl
   have q1 : DataW.trod enc Try.prog W base sp true m 27 (([u0, u1, u2, u3, u4].drop 1).take (Try.prog.cellsOf 27)) = xs[1]? := hf 1 _ rfl
   rw [qcells3, e0] at q0
   rw [qcellsA, e1] at q1
   obtain ⟨i0, p0, _⟩ := DataW.trod_int Try.underlying3 q0
   simp at p0
   subst p0
   have hw1 : WB 27 x1.1 := by
    rw [ex] at hwx
    exact hwx.agg Try.underlying78 1 _ x1.1 rfl (by rw [List.getElem?_map, e1]; rfl)
   obtain ⟨s, hs1⟩ := wat_of q1 hw1
   have h0 := hc 0 (by decide)
   rw [Addr.add_zero'] at h0
   refine ⟨⟨i0, s⟩, ⟨_, h0.trans rfl⟩, fun hs => ?_⟩
   have had := add_plain hs
   obtain ⟨b, o, z⟩ := a
   simp only at hs
   subst hs
   have hcell : ∀ k u, [Value.int .i64 i0, u1, u2, u3, u4][k]? = some u → k < 5 → W.cell? ⟨b, o + k, none⟩ = some u := fun k u hu hk => by
    have := hc k hk
    rw [had] at this
    exact this.trans hu
   exact ⟨h0.trans rfl, u1, u2, u3, u4, hcell 1 _ rfl (by decide), hcell 2 _ rfl (by decide), hcell 3 _ rfl (by decide), hcell 4 _ rfl (by decide), hs1⟩) h hw
 exact ⟨l, A, c, e, hf, hr⟩
set_option maxRecDepth 100000 in
/-- A course that came in. -/
theorem runs_open {b0 : Nat} {v : Value} {d : DataW H} {p : List MemPlace} (hv : Value.okWide Try.prog W .any b0 74 v) (h : DataW.Trod enc Try.prog W base sp true 74 v d p) (hw : WB 74 d) : ∃ l : List Rn, RN W.heap.size v l W := by
 obtain ⟨a, len, cap, rfl⟩ := okWide_slice Try.underlying74 hv
 obtain ⟨n, h⟩ := h
 exact runs_row (y := (d, p)) h hw
end
end Go.Proofs.Ytkoacclbempmdaa

/- Contracts of the laws' flowing, boarded, given. -/
namespace Go.Proofs.Ytkoacclbempmdaa
open Go.RowKit

set_option maxHeartbeats 8000000 in
set_option maxRecDepth 1000000 in
theorem flowing_any (v wv : Value) (ws : Wk) (s : Wa) (i : Nat) (w : World) (h : RK w.heap.size v ws w) (ht : total ws ≤ 100000) (hs : RWa w.heap.size wv s w) (hd : WatIs ws s 0) (hi : i < total ws) :
  Calls Try.prog 36 #[.agg #[v], wv, .int .i64 i] w fun e w' => e = .returned (.int .i64 ((flowF ws s).thr.getD i 0)) ∧ Below w.heap.size w w' := by
 obtain ⟨A, c, rfl, -⟩ := (show ∃ A c, v = .slice A ws.length c ∧ True by obtain ⟨A, c, e, _⟩ := h; exact ⟨A, c, e, trivial⟩)
 obtain ⟨A1, c1, A2, c2, A3, c3, A4, c4, rfl⟩ := hs.form
 have C1 := Lib.hid fun W (hb : Below w.heap.size w W) => Flow_any (.slice A ws.length c) _ ws s 0 W (h.up hb.size hb) (by omega) (hs.up hb.size hb) hd
 have S0 := Lib.hid (WW.new w (.slice A ws.length c) (.slice A1 s.river.length c1) (.slice A2 s.boards.length c2) (.slice A3 s.leaks.length c3) (.slice A4 s.losses.length c4))
 have hlf : (flowF ws s).thr.length = total ws := thr_len ws s _ (Nat.le_refl _)
 obtain ⟨x, hx⟩ : ∃ x, (flowF ws s).thr[i]? = some x := ⟨_, List.getElem?_eq_getElem (by omega)⟩
 have hg : (flowF ws s).thr.getD i 0 = x := by rw [List.getD_eq_getElem?_getD, hx]; rfl
 have HX := Lib.hid hx
 have HLF := Lib.hid hlf
 have HT := Lib.hid ht
 have hi0 : (i : Int) < (total ws : Int) := by omega
 have hi1 : (0 : Int) ≤ (i : Int) := by omega
 rw [hg]
 clear h hs hd hx hg hlf hi
 go_enter Try.func36, Try.ntmps36
 go_wp2_with fail
 refine (C1.out _ S0.out.bel).mono ?_
 rintro e w1 ⟨u, rfl, hu, b1⟩
 have S1 := Lib.hid (S0.out.below b1)
 rw [okL_zero] at hu
 obtain ⟨U, cu, rfl, -⟩ := hu.form
 rw [HLF.out]
 have R := Lib.hid (hu.rr EI (by rw [HLF.out]; have := HT.out; show total ws ≤ 1000000000000000; omega))
 rw [HLF.out] at R
 obtain ⟨b, o, rfl, -, q⟩ := R.out.int HX.out
 clear b1 hu R
 go_wp2_with fail
 go_ret
 exact ⟨rfl, S1.out.bel⟩

theorem set4b {W : World} {b : Nat} {a0 a1 a2 a3 : Value} (h0 : W.cell? ⟨b, 0, none⟩ = some a0) (h1 : W.cell? ⟨b, 1, none⟩ = some a1) (h2 : W.cell? ⟨b, 2, none⟩ = some a2) (h3 : W.cell? ⟨b, 3, none⟩ = some a3) (v0 v1 v2 v3 : Value) {X : World} (hX : (((W.setCell ⟨b, 0, none⟩ v0).setCell ⟨b, 1, none⟩ v1).setCell ⟨b, 2, none⟩ v2).setCell ⟨b, 3, none⟩ v3 = X) :
  X.cell? ⟨b, 0, none⟩ = some v0 ∧ X.cell? ⟨b, 1, none⟩ = some v1 ∧ X.cell? ⟨b, 2, none⟩ = some v2 ∧ X.cell? ⟨b, 3, none⟩ = some v3 ∧ GrownL [b] W X := by
 subst hX
 have n : ∀ i j, i ≠ j → ∀ (X : World) (v : Value), (X.setCell ⟨b, i, none⟩ v).cell? ⟨b, j, none⟩ = X.cell? ⟨b, j, none⟩ := fun i j hij X v => World.cell?_setCell_other _ ⟨b, i, none⟩ ⟨b, j, none⟩ _ (by simp <;> omega)
 obtain ⟨p0, p1, p2, g⟩ := set3 h0 h1 h2 v0 v1 v2
 refine ⟨by rw [n 3 0 (by decide), p0], by rw [n 3 1 (by decide), p1], by rw [n 3 2 (by decide), p2], World.cell?_setCell_same' _ _ _ (by rw [n 2 3 (by decide), n 1 3 (by decide), n 0 3 (by decide), h3]; rfl), g.trans (GrownL.set _ _ _ (by simp))⟩

/-- A literal without elements is a list of one's own. -/
theorem OwnG.lit0 {α : Type} (enc : α → List Value) (s : Nat) (e : TypeId) {base g : Nat} {W : World} (hg : W.heap[g]? = some (.cells #[] e (0, 0))) (hb : base ≤ g) : OwnG enc s e base (.slice (some ⟨g, 0, none⟩) 0 0) [] W :=
 ⟨by simp, .inr ⟨g, 0, #[], rfl, hb, hg, Nat.le_refl _, by unfold maxLen; omega, by simp, by simp⟩⟩

set_option maxHeartbeats 8000000 in
set_option maxRecDepth 1000000 in
theorem boarded_any (wv : Value) (s : Wa) (i : Nat) (k : Int) (w : World) (hs : RWa w.heap.size wv s w) (hi : i < s.boards.length) (hl : s.boards.length ≤ 1000) :
  Calls Try.prog 37 #[wv, .int .i64 i, .int .i64 k] w fun e w' => ∃ v, e = .returned v ∧ RWa w'.heap.size v (setB s i k) w' ∧ Below w.heap.size w w' := by
 obtain ⟨i0, hz0, hj0, hj1, hj2⟩ := info_parts infoInt
 obtain ⟨A1, c1, A2, c2, A3, c3, A4, c4, rfl⟩ := hs.form
 have HS := Lib.hid hs
 obtain ⟨W0, hW0⟩ : ∃ W0, ((w.alloc (.cells #[.slice A1 s.river.length c1, .slice A2 s.boards.length c2, .slice A3 s.leaks.length c3, .slice A4 s.losses.length c4] 27)).alloc (.cells #[.slice none 0 0, .slice none 0 0, .slice none 0 0, .slice none 0 0] 27)) = W0 := ⟨_, rfl⟩
 have hsz : W0.heap.size = w.heap.size + 2 := by rw [← hW0]; simp
 have hB0 : Below w.heap.size w W0 := by rw [← hW0]; exact ((Below.refl _ _).alloc (Nat.le_refl _) _).alloc (by simp) _
 have K0 : (∀ j u, [Value.slice A1 s.river.length c1, .slice A2 s.boards.length c2, .slice A3 s.leaks.length c3, .slice A4 s.losses.length c4][j]? = some u → W0.cell? ⟨w.heap.size, j, none⟩ = some u) ∧ (∀ j, W0.frozen? ⟨w.heap.size, j, none⟩ = false) ∧ (∀ j, j < 4 → W0.cell? ⟨w.heap.size + 1, j, none⟩ = some (.slice none 0 0)) ∧ ∀ j, W0.frozen? ⟨w.heap.size + 1, j, none⟩ = false := by
  rw [← hW0]
  refine ⟨fun j u hj => ?_, fun j => by simp [go_sem], fun j hj => ?_, fun j => by simp [go_sem]⟩
  ·match j, hj with
   | 0, hj => simpa [go_sem] using hj
   | 1, hj => simpa [go_sem] using hj
   | 2, hj => simpa [go_sem] using hj
   | 3, hj => simpa [go_sem] using hj
   | j + 4, hj => simp at hj
  ·match j, hj with
   | 0, _ => simp [go_sem]
   | 1, _ => simp [go_sem]
   | 2, _ => simp [go_sem]
   | 3, _ => simp [go_sem]
 obtain ⟨W3, hW3⟩ : ∃ W3, W0.alloc (.cells #[] 3) = W3 := ⟨_, rfl⟩
 have g3 : GrownL [] W0 W3 := by rw [← hW3]; exact GrownL.of_below ((Below.refl _ _).alloc (Nat.le_refl _) _)
 have hs3 : W3.heap.size = w.heap.size + 3 := by rw [← hW3]; simp [hsz]
 have hB3 : Below w.heap.size w W3 := hB0.trans (g3.below (by simp) hB0.size)
 obtain ⟨v', W', r1, o1, g1, s1⟩ := app_list (P := Try.prog) (base := w.heap.size + 2) EI Try.underlying25 hz0 hj0 hj1 hj2 rfl (OwnG.lit0 encI 1 3 (W := W3) (g := W0.heap.size) (by rw [← hW3]; exact World.alloc_heap_new W0 _) (by omega)) hs.parts.2.1 hB3 (by omega) (by simp) (by omega) (by decide)
 rw [List.nil_append] at o1
 have hg1 : ∀ k, k < w.heap.size + 2 → k ∉ (Value.slice (some ⟨W0.heap.size, 0, none⟩) 0 0).ownBlock.toList := fun k hk hm => by simp [Value.ownBlock] at hm; omega
 have hB' : Below w.heap.size w W' := hB3.trans (g1.below (fun k hk => by simp [Value.ownBlock] at hk; omega) hB3.size)
 have KW := fun (a : Addr) (ha : a.block < w.heap.size + 2) => And.intro (fun u (hu : W0.cell? a = some u) => g1.cell (g3.cell hu (by simp)) (hg1 _ ha)) (fun (hu : W0.frozen? a = false) => (World.frozen?_of_block (a := a) (g1.block _ (by omega) (hg1 _ ha))).trans ((World.frozen?_of_block (a := a) (g3.block _ (by omega) (by simp))).trans hu))
 obtain ⟨Ag, cg, rfl, hAg⟩ := o1.form
 obtain ⟨g, rfl⟩ := hAg (by omega)
 have hgg := o1.lt g rfl
 have x0 := (KW ⟨w.heap.size, 0, none⟩ (by show w.heap.size < _; omega)).1 _ (K0.1 0 _ rfl)
 have x1 := (KW ⟨w.heap.size, 1, none⟩ (by show w.heap.size < _; omega)).1 _ (K0.1 1 _ rfl)
 have x2 := (KW ⟨w.heap.size, 2, none⟩ (by show w.heap.size < _; omega)).1 _ (K0.1 2 _ rfl)
 have x3 := (KW ⟨w.heap.size, 3, none⟩ (by show w.heap.size < _; omega)).1 _ (K0.1 3 _ rfl)
 have z1 := (KW ⟨w.heap.size, 1, none⟩ (by show w.heap.size < _; omega)).2 (K0.2.1 1)
 have R := Lib.hid (fun j (hj : j < 4) => And.intro ((KW ⟨w.heap.size + 1, j, none⟩ (by show w.heap.size + 1 < _; omega)).1 _ (K0.2.2.1 j hj)) ((KW ⟨w.heap.size + 1, j, none⟩ (by show w.heap.size + 1 < _; omega)).2 (K0.2.2.2 j)))
 have y1 : (W0.alloc (.cells #[] 3)).cell? ⟨w.heap.size, 1, none⟩ = some (.slice A2 s.boards.length c2) := by rw [hW3]; exact g3.cell (K0.1 1 _ rfl) (by simp)
 have R1 := Lib.hid r1
 have HW0 := Lib.hid hW0
 have HW3 := Lib.hid hW3
 -- behind the store of the list
 obtain ⟨X, hX⟩ : ∃ X, W'.setCell ⟨w.heap.size, 1, none⟩ (.slice (some ⟨g, 0, none⟩) s.boards.length cg) = X := ⟨_, rfl⟩
 have gX : GrownL [w.heap.size] W' X := by rw [← hX]; exact GrownL.set _ _ _ (by simp)
 have oX := o1.grown gX (fun b hb hm => by simp [Value.ownBlock] at hb hm; omega)
 have ow' : X.ownsRow (w.heap.size + 2) 3 1 (.slice (some ⟨g, 0, none⟩) s.boards.length cg) s.boards.length (s.boards.flatMap encI) := oX
 obtain ⟨y, hy⟩ : ∃ y, s.boards[i]? = some y := ⟨_, List.getElem?_eq_getElem hi⟩
 have hat : (s.boards.flatMap encI)[i]? = some (.int .i64 y) := by have := EI.at_ s.boards i 0 y hy (by decide); rw [Nat.mul_one, Nat.add_zero] at this; exact this.trans rfl
 have u0 : X.cell? ⟨g, i, none⟩ = some (.int .i64 y) := (World.ownsRow.cellAt ow' i (by omega)).trans hat
 have u1 := World.ownsRow.frozenAt ow' i
 have u2 : X.cell? ⟨w.heap.size, 1, none⟩ = some (.slice (some ⟨g, 0, none⟩) s.boards.length cg) := by rw [← hX]; exact World.cell?_setCell_same' _ _ _ (by rw [x1]; rfl)
 -- behind the store of the number
 obtain ⟨Y, hY⟩ : ∃ Y, X.setCell ⟨g, i, none⟩ (.int .i64 k) = Y := ⟨_, rfl⟩
 have gY : GrownL [g] X Y := by rw [← hY]; exact GrownL.set _ _ _ (by simp)
 have oY : OwnG encI 1 3 (w.heap.size + 2) (.slice (some ⟨g, 0, none⟩) s.boards.length cg) (s.boards.set i k) Y := by rw [← hY]; exact OwnG.set1 oX rfl i k
 have nX : ∀ a : Addr, a.block = w.heap.size + 1 → ∀ u, W'.cell? a = some u → Y.cell? a = some u := fun a ha u hu => gY.cell (gX.cell hu (by simp; omega)) (by simp; omega)
 have fX : ∀ a : Addr, a.block = w.heap.size + 1 → W'.frozen? a = false → Y.frozen? a = false := fun a ha hu => (World.frozen?_of_block (a := a) (gY.block _ (by have := gX.size; have := hB'.size; omega) (by simp; omega))).trans ((World.frozen?_of_block (a := a) (gX.block _ (by omega) (by simp; omega))).trans hu)
 have cX : ∀ j u, j ≠ 1 → W'.cell? ⟨w.heap.size, j, none⟩ = some u → Y.cell? ⟨w.heap.size, j, none⟩ = some u := fun j u hj hu => gY.cell (by rw [← hX]; exact (World.cell?_setCell_other _ ⟨w.heap.size, 1, none⟩ ⟨w.heap.size, j, none⟩ _ (by simp <;> omega)).trans hu) (by simp; omega)
 have a0 := cX 0 _ (by decide) x0
 have a1 := gY.cell u2 (by simp; omega)
 have a2 := cX 2 _ (by decide) x2
 have a3 := cX 3 _ (by decide) x3
 have HB := Lib.hid (hB'.trans ((gX.below (fun k hk => by simp at hk; omega) hB'.size).trans (gY.below (fun k hk => by simp at hk; omega) (by have := gX.size; have := hB'.size; omega))))
 have OY := Lib.hid oY
 have HX := Lib.hid hX
 have HY := Lib.hid hY
 have RY := Lib.hid (fun j (hj : j < 4) => And.intro (nX ⟨w.heap.size + 1, j, none⟩ rfl _ (R.out j hj).1) (fX ⟨w.heap.size + 1, j, none⟩ rfl (R.out j hj).2))
 have hi0 : (i : Int) < (s.boards.length : Int) := by omega
 have HG := Lib.hid hgg
 have HL := Lib.hid hl
 clear hs r1 hW0 hW3 hX hY K0 hB0 hB3 hB' KW o1 oX oY ow' hat hy gX gY nX fX cX hgg hg1 g1 g3 hs3 hsz hAg s1 R x2 x3 x0
 go_enter Try.func37, Try.ntmps37
 go_upto_region 1 with fail
 rw [HW0.out]
 go_upto_region 2 with (at_builtin; rw [HW3.out]; refine Lib.wpList_append_run _ rfl _ _ _ _ rfl _ _ rfl rfl _ W' R1.out ?_)
 rw [HX.out]
 clear x1 z1 y1
 go_upto_region 3 with fail
 rw [HY.out]
 clear u0 u1 u2
 have r0 := (RY.out 0 (by decide)).1
 have r1 := (RY.out 1 (by decide)).1
 have r2 := (RY.out 2 (by decide)).1
 have r3 := (RY.out 3 (by decide)).1
 have f0 := (RY.out 0 (by decide)).2
 have f1 := (RY.out 1 (by decide)).2
 have f2 := (RY.out 2 (by decide)).2
 have f3 := (RY.out 3 (by decide)).2
 go_wp2_with fail
 obtain ⟨Z, hZ⟩ : ∃ Z, (((Y.setCell ⟨w.heap.size + 1, 0, none⟩ (.slice A1 s.river.length c1)).setCell ⟨w.heap.size + 1, 1, none⟩ (.slice (some ⟨g, 0, none⟩) s.boards.length cg)).setCell ⟨w.heap.size + 1, 2, none⟩ (.slice A3 s.leaks.length c3)).setCell ⟨w.heap.size + 1, 3, none⟩ (.slice A4 s.losses.length c4) = Z := ⟨_, rfl⟩
 obtain ⟨p0, p1, p2, p3, gz⟩ := set4b r0 r1 r2 r3 _ _ _ _ hZ
 rw [hZ]
 clear hZ
 refine bodyPost_ret (v := .agg #[.slice A1 s.river.length c1, .slice (some ⟨g, 0, none⟩) s.boards.length cg, .slice A3 s.leaks.length c3, .slice A4 s.losses.length c4]) (by simp [results, Try.results37, go_sem, p0, p1, p2, p3]) rfl ?_
 have bz := HB.out.trans (gz.below (fun k hk => by simp at hk; omega) HB.out.size)
 have hZs : w.heap.size ≤ Z.heap.size := bz.size
 refine ⟨_, rfl, ⟨_, _, _, _, rfl, (HS.out.parts.1).up hZs bz, ?_, (HS.out.parts.2.2.1).up hZs bz, (HS.out.parts.2.2.2).up hZs bz⟩, bz⟩
 have := (OY.out.grown gz (fun b hb hm => by have := (OY.out.lt b hb).1; simp at hm; omega)).rr EI (by rw [List.length_set]; have := HL.out; show s.boards.length ≤ 1000000000000000; omega)
 exact this
end Go.Proofs.Ytkoacclbempmdaa

/- The room of a course that came in; copies of parts of a course. -/
namespace Go.Proofs.Ytkoacclbempmdaa
open Go.ChangeShapes Go.WideShapes Go.ChangeAt Go.RowKit Go.Joins

/-- A slice that came in is no longer than its room. -/
theorem okWide_cap {P : Program} {w : World} {r : Reach} {b0 n c : Nat} {t e : TypeId} {A : Option Addr} (ht : P.underlying t = some (.slice e)) (h : Value.okWide P w r b0 t (.slice A n c)) : n ≤ c := by
 simp only [Value.okWide, ht, Cell.okWide] at h
 cases A with
 | none =>
  unfold Cell.ok at h
  rw [ht] at h
  match n, c, h with
  | 0, 0, _ => exact Nat.le_refl _
 | some a =>
  unfold Cell.ok at h
  rw [ht] at h
  exact h.1
theorem infoRun : (Try.prog.info? 78).map (fun i => (i.zero, i.size, i.bytes)) = some (some (.agg #[.int .i64 0, .slice none 0 0, .slice none 0 0, .slice none 0 0, .slice none 0 0]), 5, 104) := by kernel_rfl
/-- Runs of one's own, appended onto by a row of runs. -/
theorem appR {w W : World} {A : Option Addr} {c base : Nat} {v : Value} {xs ys : List Rr} (hv : OwnG encRr 5 78 base v xs W) (hy : RR encRr w.heap.size (.slice A ys.length c) ys w) (hb : Below w.heap.size w W) (hbase : base ≤ W.heap.size) (hx : xs.length ≤ 1000) (hl : ys.length ≤ 1000) :
  ∃ v' W', (Builtin.append_ #[74, 74] 74 #[v, .slice A ys.length c]).run Try.prog W = .ok v' W' ∧ OwnG encRr 5 78 base v' (xs ++ ys) W' ∧ GrownL v.ownBlock.toList W W' := by
 obtain ⟨i0, hz0, hj0, hj1, hj2⟩ := info_parts infoRun
 obtain ⟨v', W', r1, o1, g1, s1⟩ := app_list (P := Try.prog) (base := base) ERr Try.underlying74 hz0 hj0 hj1 hj2 rfl hv hy hb hbase (by omega) (by omega) (by decide)
 exact ⟨v', W', r1, o1, g1⟩
/-- A literal without elements, onto which a row of runs is appended. -/
theorem copyR {w W : World} {A : Option Addr} {c base q : Nat} {ys : List Rr} (hq : W.heap[q]? = some (.cells #[] 78 (0, 0))) (hbq : base ≤ q) (hy : RR encRr w.heap.size (.slice A ys.length c) ys w) (hb : Below w.heap.size w W) (hl : ys.length ≤ 1000) :
  ∃ v' W', (Builtin.append_ #[74, 74] 74 #[.slice (some ⟨q, 0, none⟩) 0 0, .slice A ys.length c]).run Try.prog W = .ok v' W' ∧ OwnG encRr 5 78 base v' ys W' ∧ GrownL [q] W W' := by
 have hqs : q < W.heap.size := (Array.getElem?_eq_some_iff.1 hq).1
 obtain ⟨v', W', r1, o1, g1⟩ := appR (OwnG.lit0 encRr 5 78 (W := W) (g := q) hq hbq) hy hb (by omega) (by simp) hl
 exact ⟨v', W', r1, o1, g1⟩
theorem Rr.ok.up {B B' : Nat} {w w' : World} {x : Rr} (h : x.ok B w) (hB : B ≤ B') (hb : Below B w w') : x.ok B' w' := RWa.up h hB hb
/-- A row of runs of one's own is a course. -/
theorem own_rn {base : Nat} {v : Value} {X : List Rr} {w W : World} (h : OwnG encRr 5 78 base v X W) (hok : ∀ x ∈ X, x.ok w.heap.size w) (hb : Below w.heap.size w W) (hl : X.length ≤ 1000) : RN W.heap.size v (X.map (·.r)) W :=
 RN.of (h.rr ERr (by show X.length ≤ 1000000000000000; omega)) (fun x hx => (hok x hx).up hb.size hb)
/-- The rest of a row, as a slice expression gives it. -/
theorem RR.dropA {α : Type} {enc : α → List Value} {s : Nat} (E : Enc enc s) {B n c : Nat} {A : Option Addr} {l : List α} {w : World} (h : RR enc B (.slice A n c) l w) (hn : n = l.length) (hc : n ≤ c) (k : Nat) (hk : k ≤ n) :
  RR enc B (.slice (if c = k then A else Option.map (fun x => x.add (k * s)) A) (n - k) (c - k)) (l.drop k) w := by
 subst hn
 by_cases hlt : k < l.length
 ·rw [if_neg (by omega)]
  obtain ⟨A', c', e, hl, hx⟩ := h
  obtain ⟨b, o, e1, e2, hh⟩ := hx (by omega)
  simp only [Value.slice.injEq, true_and] at e
  obtain ⟨rfl, rfl⟩ := e
  subst e1
  have := RR.drop E (c := c) (n := l.length) ⟨_, _, rfl, hl, hx⟩ k hlt
  rw [List.length_drop] at this
  have e : Option.map (fun x : Addr => x.add (k * s)) (some ⟨b, o, none⟩) = some ⟨b, o + k * s, none⟩ := by simp [Addr.add]
  rw [e]
  exact this
 ·obtain ⟨A', c', e, hl, hx⟩ := h
  have he : l.drop k = [] := List.drop_eq_nil_of_le (by omega)
  rw [he]
  exact ⟨_, _, by rw [show l.length - k = ([] : List α).length by simp; omega], Nat.zero_le _, fun h => absurd h (by simp)⟩
section
variable {ops : Array Oper} {o : Oper} {a : Act} {w : World} {K : Act → World → Prop} {Q : Exit → Act → World → Prop} {E : Prop}
/-- An append whose run is known, as a step of a region that draws. -/
theorem step_ap (hg : o.guard = none) (s x : Operand) (t1 t2 : TypeId) (hop : o.op = Op.call { callee := Callee.builtin Builtin.append, args := #[s, x], argTypes := #[t1, t2] }) (u y : Value) (hs : a.eval s = u) (hx : a.eval x = y) {v' : Value} {w' : World}
  (hrun : (Builtin.append_ #[t1, t2] o.type #[u, y]).run Try.prog w = .ok v' w') (hK : K (a.put o.dst v') w') : if Region.wanted o (yielded ops a.tmps) = true then Oper.wp Try.prog o a w K Q else E := by
 have hw : Region.wanted o (yielded ops a.tmps) = true := by simp [Region.wanted, hg]
 rw [if_pos hw]
 unfold Oper.wp
 simp [execOp, hop, resolve, invoke, builtin, hs, hx, hrun, Result.andThen]
 exact hK
end
end Go.Proofs.Ytkoacclbempmdaa
