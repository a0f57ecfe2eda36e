/- Contract of the laws' wet. -/
import Derived.Test.YtkoacclbempmdaaGZL
import Derived.Test.YtkoacclbempmdaaGH
import Derived.Test.YtkoacclbempmdaaGS
import Derived.Test.YtkoacclbempmdaaGW
import Derived.Maps.AppendAt
namespace Go.Proofs.Ytkoacclbempmdaa
open Go.RowKit

def WetPost (s : Wa) (w : World) (e : Ending) (w' : World) : Prop := ∃ b, e = .returned (.bool b) ∧ (b = true → s.river.length ≤ 100 ∧ s.boards.length ≤ 100 ∧ s.leaks.length ≤ 100 ∧ s.losses.length ≤ 100) ∧ Below w.heap.size w w'
set_option maxHeartbeats 8000000 in
set_option maxRecDepth 1000000 in
theorem wet_any (v : Value) (s : Wa) (w : World) (h : RWa w.heap.size v s w) : Calls Try.prog 19 #[v] w (WetPost s w) := by
  obtain ⟨A1, c1, A2, c2, A3, c3, A4, c4, rfl⟩ := h.form
  clear h
  have hs : (100 : Int) < (s.river.length : Int) ∨ ((s.river.length : Int) ≤ 100 ∧ (100 : Int) < (s.boards.length : Int)) ∨ ((s.river.length : Int) ≤ 100 ∧ (s.boards.length : Int) ≤ 100 ∧ (100 : Int) < (s.leaks.length : Int)) ∨ ((s.river.length : Int) ≤ 100 ∧ (s.boards.length : Int) ≤ 100 ∧ (s.leaks.length : Int) ≤ 100 ∧ (100 : Int) < (s.losses.length : Int)) ∨ ((s.river.length : Int) ≤ 100 ∧ (s.boards.length : Int) ≤ 100 ∧ (s.leaks.length : Int) ≤ 100 ∧ (s.losses.length : Int) ≤ 100) := by omega
  have HB : Hid (Below w.heap.size w (w.alloc (.cells #[.slice A1 s.river.length c1, .slice A2 s.boards.length c2, .slice A3 s.leaks.length c3, .slice A4 s.losses.length c4] 27))) := Lib.hid ((Below.refl _ _).alloc (Nat.le_refl _) _)
  rcases hs with h1 | ⟨h1, h2⟩ | ⟨h1, h2, h3⟩ | ⟨h1, h2, h3, h4⟩ | ⟨h1, h2, h3, h4⟩
  all_goals
    go_enter Try.func19, Try.ntmps19
    go_wp2_with fail
    go_ret
    first
      | exact ⟨false, rfl, (fun h => by cases h), HB.out⟩
      | exact ⟨true, rfl, (fun _ => by omega), HB.out⟩
      | exact ⟨_, rfl, (fun h => by have := of_decide_eq_true h; omega), HB.out⟩

end Go.Proofs.Ytkoacclbempmdaa

/- A carrier, an outlet, in memory; a number behind a list. -/
namespace Go.Proofs.Ytkoacclbempmdaa
open Go.RowKit
theorem rk_at {B n c k : Nat} {A : Option Addr} {ws : Wk} {os : List Ou} {w : World} (h : RK B (.slice A n c) ws w) (hos : ws[k]? = some os) : ∃ b o, A = some ⟨b, o, none⟩ ∧ b < B ∧ ∃ u, w.cell? ⟨b, o + k, none⟩ = some u ∧ ∃ A1 c1, u = .slice A1 os.length c1 ∧ RO B u os w := by
  obtain ⟨A0, c0, e0, -, hx⟩ := h
  have hk := (List.getElem?_eq_some_iff.1 hos).1
  simp only [Value.slice.injEq] at e0
  obtain ⟨rfl, -, -⟩ := e0
  obtain ⟨b, o, e1, e2, e3⟩ := hx (by omega)
  obtain ⟨u, hu, hr⟩ := e3 k os hos
  obtain ⟨a, cc, e⟩ := hr.slice
  exact ⟨b, o, e1, e2, u, hu, a, cc, e, hr⟩
theorem ro_at {B n c j : Nat} {A : Option Addr} {os : List Ou} {p : Ou} {w : World} (h : RO B (.slice A n c) os w) (hp : os[j]? = some p) : ∃ b o, A = some ⟨b, o, none⟩ ∧ b < B ∧ OuAt B b (o + j * 7) p w := by
  obtain ⟨A0, c0, e0, -, hx⟩ := h
  have hj := (List.getElem?_eq_some_iff.1 hp).1
  simp only [Value.slice.injEq] at e0
  obtain ⟨rfl, -, -⟩ := e0
  obtain ⟨b, o, e1, e2, e3⟩ := hx (by omega)
  exact ⟨b, o, e1, e2, e3 j p hp⟩
theorem own_snoc {W : World} {base n : Nat} {v : Value} {l : List Int} {y : Int} (h : W.ownsRow base 3 1 v (n + 1) (l.flatMap encI ++ [.int .i64 y])) (hn : l.length = n) : OwnG encI 1 3 base v (l ++ [y]) W := by
  unfold OwnG
  rw [List.flatMap_append, List.length_append, hn]
  exact h
theorem new_set (W : World) (a : Addr) (v x : Value) (t : TypeId) (i : Nat) (u : Value) (hi : [x][i]? = some u) : ((W.setCell a v).alloc (.cells #[x] t)).cell? ((⟨W.heap.size, 0, none⟩ : Addr).add i) = some u := by
  have := one_news (W.setCell a v) x t i u hi
  rwa [show (W.setCell a v).heap.size = W.heap.size by simp] at this

end Go.Proofs.Ytkoacclbempmdaa

/- A course in memory, and the law's runs. -/
namespace Go.Proofs.Ytkoacclbempmdaa
open Go.RowKit

/-- A run: its minutes, its water. -/
structure Rn where
  mn : Int
  wa : Wa
/-- The cells of a run. -/
def RnAt (B b o : Nat) (r : Rn) (w : World) : Prop :=
  w.cell? ⟨b, o, none⟩ = some (.int .i64 r.mn) ∧ ∃ u0 u1 u2 u3, w.cell? ⟨b, o + 1, none⟩ = some u0 ∧ w.cell? ⟨b, o + 1 + 1, none⟩ = some u1 ∧ w.cell? ⟨b, o + 1 + 2, none⟩ = some u2 ∧ w.cell? ⟨b, o + 1 + 3, none⟩ = some u3 ∧ RWa B (.agg #[u0, u1, u2, u3]) r.wa w
/-- A slice of runs. -/
def RN (B : Nat) (v : Value) (l : List Rn) (w : World) : Prop :=
  ∃ A c, v = .slice A l.length c ∧ Fits l.length ∧ (0 < l.length → ∃ b o, A = some ⟨b, o, none⟩ ∧ b < B ∧ ∀ k x, l[k]? = some x → RnAt B b (o + k * 5) x w)
theorem RN.up {B B' : Nat} {v : Value} {l : List Rn} {w w' : World} (h : RN B v l w) (hB : B ≤ B') (hb : Below B w w') : RN B' v l w' := by
  obtain ⟨A, c, e, hl, hc⟩ := h
  refine ⟨A, c, e, hl, fun hp => ?_⟩
  obtain ⟨b, o, e2, hlt, k⟩ := hc hp
  refine ⟨b, o, e2, Nat.lt_of_lt_of_le hlt hB, fun i x hi => ?_⟩
  obtain ⟨h0, u0, u1, u2, u3, h1, h2, h3, h4, h5⟩ := k i x hi
  exact ⟨(hb.cell (p := ⟨b, o + i * 5, none⟩) hlt).trans h0, u0, u1, u2, u3, (hb.cell (p := ⟨b, o + i * 5 + 1, none⟩) hlt).trans h1, (hb.cell (p := ⟨b, o + i * 5 + 1 + 1, none⟩) hlt).trans h2, (hb.cell (p := ⟨b, o + i * 5 + 1 + 2, none⟩) hlt).trans h3, (hb.cell (p := ⟨b, o + i * 5 + 1 + 3, none⟩) hlt).trans h4, h5.up hB hb⟩
theorem RN.form {B : Nat} {v : Value} {l : List Rn} {w : World} (h : RN B v l w) : ∃ A c, v = .slice A l.length c := by obtain ⟨A, c, e, _⟩ := h; exact ⟨A, c, e⟩
theorem RN.fits {B : Nat} {v : Value} {l : List Rn} {w : World} (h : RN B v l w) : Fits l.length := by obtain ⟨_, _, _, hl, _⟩ := h; exact hl
theorem rn_at {B n c j : Nat} {A : Option Addr} {l : List Rn} {r : Rn} {w : World} (h : RN B (.slice A n c) l w) (hp : l[j]? = some r) : ∃ b o, A = some ⟨b, o, none⟩ ∧ b < B ∧ w.cell? ⟨b, o + j * 5, none⟩ = some (.int .i64 r.mn) ∧ ∃ A1 c1 A2 c2 A3 c3 A4 c4, w.cell? ⟨b, o + j * 5 + 1, none⟩ = some (.slice A1 r.wa.river.length c1) ∧ w.cell? ⟨b, o + j * 5 + 1 + 1, none⟩ = some (.slice A2 r.wa.boards.length c2) ∧ w.cell? ⟨b, o + j * 5 + 1 + 2, none⟩ = some (.slice A3 r.wa.leaks.length c3) ∧ w.cell? ⟨b, o + j * 5 + 1 + 3, none⟩ = some (.slice A4 r.wa.losses.length c4) ∧ RWa B (.agg #[.slice A1 r.wa.river.length c1, .slice A2 r.wa.boards.length c2, .slice A3 r.wa.leaks.length c3, .slice A4 r.wa.losses.length c4]) r.wa w := by
  obtain ⟨A0, c0, e0, -, hx⟩ := h
  have hj := (List.getElem?_eq_some_iff.1 hp).1
  simp only [Value.slice.injEq] at e0
  obtain ⟨rfl, -, -⟩ := e0
  obtain ⟨b, o, e1, e2, hh⟩ := hx (by omega)
  obtain ⟨h0, u0, u1, u2, u3, h1, h2, h3, h4, h5⟩ := hh j r hp
  obtain ⟨A1, c1, A2, c2, A3, c3, A4, c4, e⟩ := h5.form
  simp only [Value.agg.injEq, Array.mk.injEq, List.cons.injEq, and_true] at e
  obtain ⟨rfl, rfl, rfl, rfl⟩ := e
  exact ⟨b, o, e1, e2, h0, A1, c1, A2, c2, A3, c3, A4, c4, h1, h2, h3, h4, h5⟩

def RunsPost (l : List Rn) (w : World) (e : Ending) (w' : World) : Prop := ∃ b, e = .returned (.bool b) ∧ (b = true → l.length ≤ 80) ∧ Below w.heap.size w w'
set_option maxHeartbeats 8000000 in
set_option maxRecDepth 1000000 in
theorem runs_any (v : Value) (l : List Rn) (w : World) (h : RN w.heap.size v l w) : Calls Try.prog 40 #[v] w (RunsPost l w) := by
  obtain ⟨A, c, rfl⟩ := h.form
  have HF := Lib.hid h.fits
  have H := Lib.hid h
  have HB := Lib.hid (Below.refl w.heap.size w)
  have hfit : (l.length : Int) ≤ 1000000000000000 := by have := HF.out; omega
  clear h
  go_enter Try.func40, Try.ntmps40
  go_wp2_with fail
  go_loopw [3] (fun a wr => ∃ j : Nat, a = .int .i64 j ∧ j ≤ l.length ∧ Below w.heap.size w wr) (fun a _ => l.length - (intOf a).toNat)
  case atStart => exact ⟨0, rfl, by omega, HB.out⟩
  case round =>
    obtain ⟨j, rfl, hj, hb⟩ := hrel
    have S := Lib.hid hb
    clear hb
    by_cases hjl : j < l.length
    · have hj0 : (j : Int) < (l.length : Int) := by omega
      obtain ⟨r, hr⟩ : ∃ r, l[j]? = some r := ⟨_, List.getElem?_eq_getElem hjl⟩
      obtain ⟨b, o, rfl, hlt, q0, A1, c1, A2, c2, A3, c3, A4, c4, q1, q2, q3, q4, q5⟩ := rn_at (H.out.up S.out.size S.out) hr
      have Q := Lib.hid q5
      clear q5 hr
      go_wp2_with fail
      refine (wet_any _ r.wa _ Q.out).mono ?_
      rintro e w1 ⟨x, rfl, -, b1⟩
      have S1 := Lib.hid (S.out.trans (b1.mono S.out.size))
      clear b1 Q q0 q1 q2 q3 q4
      cases x
      · go_wp2_with fail
        go_ret
        exact ⟨false, rfl, (fun h => by cases h), S1.out⟩
      · go_wp2_with fail
        go_roundw
        case rel => exact ⟨j + 1, by go_num, by omega, S1.out⟩
        case measure => show l.length - ((j : Int) + 1).toNat < l.length - (j : Int).toNat; omega
    · have hj0 : (l.length : Int) ≤ (j : Int) := by omega
      have hs : (l.length : Int) ≤ 6 ∨ ((6 : Int) < (l.length : Int) ∧ (l.length : Int) ≤ 60) ∨ ((6 : Int) < (l.length : Int) ∧ (60 : Int) < (l.length : Int) ∧ (l.length : Int) ≤ 80) ∨ ((6 : Int) < (l.length : Int) ∧ (60 : Int) < (l.length : Int) ∧ (80 : Int) < (l.length : Int)) := by omega
      rcases hs with h1 | ⟨h1, h2⟩ | ⟨h1, h2, h3⟩ | ⟨h1, h2, h3⟩
      all_goals
        go_wp2_with fail
        go_ret
        first
          | exact ⟨false, rfl, (fun h => by cases h), S.out⟩
          | exact ⟨_, rfl, (fun h => by (try simp only [Bool.or_eq_true, decide_eq_true_eq] at h); omega), S.out⟩
          | exact ⟨true, rfl, (fun _ => by omega), S.out⟩
end Go.Proofs.Ytkoacclbempmdaa

/- Contract of the program's checkCourse. -/
namespace Go.Proofs.Ytkoacclbempmdaa
open Go.RowKit

def RnOk (ws : Wk) (r : Rn) : Prop := (1 ≤ r.mn ∧ r.mn ≤ 1048576) ∧ WaOk ws r.wa
def CourseIs (ws : Wk) (l : List Rn) (d : Int) : Prop := (CheckIs ws d ∧ d ≠ 0) ∨ (CheckIs ws 0 ∧ 60 < l.length ∧ d = 2) ∨ (CheckIs ws 0 ∧ l.length ≤ 60 ∧ (¬ ∀ (j : Nat) (r : Rn), l[j]? = some r → RnOk ws r) ∧ d = 1) ∨ (CheckIs ws 0 ∧ l.length ≤ 60 ∧ (∀ (j : Nat) (r : Rn), l[j]? = some r → RnOk ws r) ∧ d = 0)
theorem CourseIs.exists_ (ws : Wk) (l : List Rn) : ∃ d, CourseIs ws l d := by
  obtain ⟨d, hd⟩ := CheckIs.exists_ ws
  by_cases h : d = 0
  · subst h
    by_cases h1 : 60 < l.length
    · exact ⟨2, .inr (.inl ⟨hd, h1, rfl⟩)⟩
    · by_cases h2 : ∀ (j : Nat) (r : Rn), l[j]? = some r → RnOk ws r
      · exact ⟨0, .inr (.inr (.inr ⟨hd, by omega, h2, rfl⟩))⟩
      · exact ⟨1, .inr (.inr (.inl ⟨hd, by omega, h2, rfl⟩))⟩
  · exact ⟨d, .inl ⟨hd, h⟩⟩
/-- What a function over works and a course holds in its first block. -/
structure WC1 (w : World) (v : Value) (W : World) : Prop where
  wk : W.cell? ⟨w.heap.size, 0, none⟩ = some v
  bel : Below w.heap.size w W
theorem WC1.new (w : World) (v : Value) : WC1 w v (w.alloc (.cells #[v] 24)) := ⟨by simp [go_sem], (Below.refl _ _).alloc (Nat.le_refl _) _⟩
theorem WC1.below {w W W' : World} {v : Value} (h : WC1 w v W) (hb : Below W.heap.size W W') : WC1 w v W' := ⟨BelS.c hb h.wk, h.bel.trans (hb.mono h.bel.size)⟩
theorem WC1.siz {w W : World} {v : Value} (h : WC1 w v W) : w.heap.size < W.heap.size := World.block_lt_of_cell? _ _ h.wk
/-- A run in a block of its own. -/
theorem run_new (W : World) (m : Int) (u0 u1 u2 u3 : Value) {X : World} (hX : W.alloc (.cells #[.int .i64 m, u0, u1, u2, u3] 78) = X) : X.cell? ⟨W.heap.size, 0, none⟩ = some (.int .i64 m) ∧ X.cell? ⟨W.heap.size, 1, none⟩ = some u0 ∧ X.cell? ⟨W.heap.size, 1 + 1, none⟩ = some u1 ∧ X.cell? ⟨W.heap.size, 1 + 2, none⟩ = some u2 ∧ X.cell? ⟨W.heap.size, 1 + 3, none⟩ = some u3 ∧ Below W.heap.size W X := by
  subst hX
  exact ⟨by simp [go_sem], by simp [go_sem], by simp [go_sem], by simp [go_sem], by simp [go_sem], (Below.refl _ _).alloc (Nat.le_refl _) _⟩

set_option maxHeartbeats 8000000 in
set_option maxRecDepth 1000000 in
theorem checkCourse_any (v lv : Value) (ws : Wk) (l : List Rn) (d : Int) (w : World) (h : RK w.heap.size v ws w) (ht : total ws ≤ 100000) (hl : RN w.heap.size lv l w) (hd : CourseIs ws l d) :
    Calls Try.prog 99 #[.agg #[v], lv] w fun e w' => e = .returned (.int .i64 d) ∧ Below w.heap.size w w' := by
  obtain ⟨A, c, rfl, -⟩ := (show ∃ A c, v = .slice A ws.length c ∧ True by obtain ⟨A, c, e, _⟩ := h; exact ⟨A, c, e, trivial⟩)
  obtain ⟨Al, cl, rfl⟩ := hl.form
  have C1 := Lib.hid fun (d : Int) (hc : CheckIs ws d) W (hb : Below w.heap.size w W) => check_any (.slice A ws.length c) ws d W (h.up hb.size hb) (by omega) hc
  have HK := Lib.hid h
  have HL := Lib.hid hl
  have S0 := Lib.hid (WC1.new w (.slice A ws.length c))
  obtain ⟨dc, hdc, hz, hcase⟩ : ∃ dc, CheckIs ws dc ∧ (dc ≠ 0 → d = dc) ∧ (dc = 0 → (60 < l.length ∧ d = 2) ∨ (l.length ≤ 60 ∧ (¬ ∀ (j : Nat) (r : Rn), l[j]? = some r → RnOk ws r) ∧ d = 1) ∨ (l.length ≤ 60 ∧ (∀ (j : Nat) (r : Rn), l[j]? = some r → RnOk ws r) ∧ d = 0)) := by
    rcases hd with ⟨h, h0⟩ | ⟨h, h1⟩ | ⟨h, h1⟩ | ⟨h, h1⟩
    · exact ⟨d, h, fun _ => rfl, fun h => absurd h h0⟩
    · exact ⟨0, h, fun h => absurd rfl h, fun _ => .inl h1⟩
    · exact ⟨0, h, fun h => absurd rfl h, fun _ => .inr (.inl h1)⟩
    · exact ⟨0, h, fun h => absurd rfl h, fun _ => .inr (.inr h1)⟩
  have HC := Lib.hid hdc
  have HZ := Lib.hid hz
  have HCX := Lib.hid hcase
  have HF := Lib.hid hl.fits
  have hfit : (l.length : Int) ≤ 1000000000000000 := by have := HF.out; omega
  clear h hl hd hdc hz hcase
  go_enter Try.func99, Try.ntmps99
  go_wp2_with fail
  refine (C1.out dc HC.out _ S0.out.bel).mono ?_
  rintro e w1 ⟨rfl, b1⟩
  have S := Lib.hid (S0.out.below b1)
  clear b1 C1 S0
  by_cases hd0 : dc = 0
  rotate_left
  · have hdb : (dc != 0) = true := by rw [bne_iff_ne]; exact hd0
    have E := Lib.hid (HZ.out hd0)
    go_wp2_with fail
    go_ret
    exact ⟨by rw [E.out]; try rfl, S.out.bel⟩
  subst hd0
  have HCS := Lib.hid (HCX.out rfl)
  have HW : Hid (WOk ws) := Lib.hid HC.out.ok
  by_cases h60 : 60 < l.length
  · have h0 : (60 : Int) < (l.length : Int) := by omega
    have E : Hid (d = 2) := Lib.hid (by rcases HCS.out with ⟨_, h⟩ | ⟨h, _⟩ | ⟨h, _⟩ <;> omega)
    go_wp2_with fail
    go_ret
    exact ⟨by rw [E.out]; try rfl, S.out.bel⟩
  have h0 : (l.length : Int) ≤ 60 := by omega
  go_wp2_with fail
  go_loopw [18] (fun a wr => ∃ j : Nat, a = .int .i64 j ∧ j ≤ l.length ∧ (∀ (i : Nat) (r : Rn), i < j → l[i]? = some r → RnOk ws r) ∧ WC1 w (.slice A ws.length c) wr) (fun a _ => l.length - (intOf a).toNat)
  case atStart => exact ⟨0, rfl, by omega, fun i r hi => absurd hi (by omega), S.out⟩
  case round =>
    obtain ⟨j, rfl, hj, hpre, hS⟩ := hrel
    replace S := Lib.hid hS
    have HP := Lib.hid hpre
    clear hS hpre
    by_cases hjl : j < l.length
    · have hj0 : (j : Int) < (l.length : Int) := by omega
      obtain ⟨r, hr⟩ : ∃ r, l[j]? = some r := ⟨_, List.getElem?_eq_getElem hjl⟩
      have HR := Lib.hid hr
      obtain ⟨b, o, rfl, hlt, q0, A1, c1, A2, c2, A3, c3, A4, c4, q1, q2, q3, q4, q5⟩ := rn_at (HL.out.up S.out.bel.size S.out.bel) hr
      have Q := Lib.hid q5
      clear q5 hr
      go_upto_region 9 with fail
      obtain ⟨X, hX⟩ : ∃ X, wr.alloc (.cells #[.int .i64 r.mn, .slice A1 r.wa.river.length c1, .slice A2 r.wa.boards.length c2, .slice A3 r.wa.leaks.length c3, .slice A4 r.wa.losses.length c4] 78) = X := ⟨_, rfl⟩
      rw [hX]
      obtain ⟨x0, x1, x2, x3, x4, bX⟩ := run_new wr _ _ _ _ _ hX
      have SX := Lib.hid (S.out.below bX)
      have QX := Lib.hid (Q.out.up bX.size bX)
      have y0 := SX.out.wk
      clear hX bX q0 q1 q2 q3 q4 S Q
      have bad : ¬ RnOk ws r → d = 1 := fun hb => by
        rcases HCS.out with ⟨h, _⟩ | ⟨_, _, h⟩ | ⟨_, h, _⟩
        · omega
        · exact h
        · exact absurd (h j r HR.out) hb
      have HBAD := Lib.hid bad
      clear bad
      by_cases m1 : r.mn < 1
      · have E : Hid (d = 1) := Lib.hid (HBAD.out (fun h => by have := h.1.1; omega))
        go_wp2_with fail
        go_ret
        exact ⟨by rw [E.out]; try rfl, SX.out.bel⟩
      by_cases m2 : 1048576 < r.mn
      · have E : Hid (d = 1) := Lib.hid (HBAD.out (fun h => by have := h.1.2; omega))
        go_wp2_with fail
        go_ret
        exact ⟨by rw [E.out]; try rfl, SX.out.bel⟩
      obtain ⟨bb, hbb⟩ : ∃ bb : Bool, bb = true ↔ WaOk ws r.wa := by
        by_cases h : WaOk ws r.wa
        · exact ⟨true, by simp [h]⟩
        · exact ⟨false, by simp [h]⟩
      have HBB := Lib.hid hbb
      clear hbb
      go_wp2_with fail
      refine (isWater_any A c _ ws r.wa bb _ (HK.out.up SX.out.bel.size SX.out.bel) QX.out HW.out HBB.out).mono ?_
      rintro e w5 ⟨rfl, b5⟩
      have S5 := Lib.hid (SX.out.below b5)
      clear b5 x0 x1 x2 x3 x4 y0
      cases bb
      · have E : Hid (d = 1) := Lib.hid (HBAD.out (fun h => by have := HBB.out.2 h.2; cases this))
        go_wp2_with fail
        go_ret
        exact ⟨by rw [E.out]; try rfl, S5.out.bel⟩
      · have G : Hid (RnOk ws r) := Lib.hid ⟨by omega, HBB.out.1 rfl⟩
        go_wp2_with fail
        go_roundw
        case rel => exact ⟨j + 1, by go_num, by omega, fun i r' hi hr' => by
          rcases Nat.lt_or_ge i j with h | h
          · exact HP.out i r' h hr'
          · obtain rfl : i = j := by omega
            have hrr := HR.out
            rw [hrr] at hr'
            cases hr'
            exact G.out, S5.out⟩
        case measure => show l.length - ((j : Int) + 1).toNat < l.length - (j : Int).toNat; omega
    · have hj0 : (l.length : Int) ≤ (j : Int) := by omega
      have E : Hid (d = 0) := Lib.hid (by
        rcases HCS.out with ⟨h, _⟩ | ⟨_, h, _⟩ | ⟨_, _, h⟩
        · omega
        · exact absurd (fun i r hr => HP.out i r (by have := (List.getElem?_eq_some_iff.1 hr).1; omega) hr) h
        · exact h)
      go_wp2_with fail
      go_ret
      exact ⟨by rw [E.out]; try rfl, S.out.bel⟩
end Go.Proofs.Ytkoacclbempmdaa

/- Contract of the program's Drunk. -/
namespace Go.Proofs.Ytkoacclbempmdaa
open Go.RowKit

/-- What the first runs of a course give an outlet. -/
def drunkAt (ws : Wk) (l : List Rn) (i : Nat) : Nat → Int
  | 0 => 0
  | j + 1 => drunkAt ws l i j + match l[j]? with | some r => (flowF ws r.wa).thr.getD i 0 * r.mn | none => 0
theorem drunkAt_succ {ws : Wk} {l : List Rn} (i : Nat) {j : Nat} {r : Rn} (h : l[j]? = some r) : drunkAt ws l i (j + 1) = drunkAt ws l i j + (flowF ws r.wa).thr.getD i 0 * r.mn := by rw [drunkAt, h]
def drunkL (ws : Wk) (l : List Rn) : List Int := (List.range (total ws)).map fun i => drunkAt ws l i l.length
theorem drunkL_len (ws : Wk) (l : List Rn) : (drunkL ws l).length = total ws := by simp [drunkL]
theorem thr_b {ws : Wk} (hw : WOk ws) {s : Wa} (hs : WaOk ws s) (i : Nat) : 0 ≤ (flowF ws s).thr.getD i 0 ∧ (flowF ws s).thr.getD i 0 ≤ 1048576 := by
  by_cases hi : i < total ws
  · obtain ⟨x, hx⟩ : ∃ x, (flowF ws s).thr[i]? = some x := ⟨_, List.getElem?_eq_getElem (by rw [show (flowF ws s).thr.length = total ws from thr_len ws s _ (Nat.le_refl _)]; exact hi)⟩
    have := (FB.flow hs hw _ (Nat.le_refl _)).r x (List.mem_of_getElem? hx)
    rw [List.getD_eq_getElem?_getD, hx]
    exact this
  · rw [List.getD_eq_getElem?_getD, List.getElem?_eq_none (by rw [show (flowF ws s).thr.length = total ws from thr_len ws s _ (Nat.le_refl _)]; omega)]
    exact ⟨by decide, by decide⟩
theorem mul_b {x m : Int} (h0 : 0 ≤ x) (h1 : x ≤ 1048576) (m0 : 0 ≤ m) (m1 : m ≤ 1048576) : 0 ≤ x * m ∧ x * m ≤ 1099511627776 := by
  refine ⟨Int.mul_nonneg h0 m0, ?_⟩
  have := Int.mul_le_mul h1 m1 m0 (by decide)
  omega
theorem drunk_b {ws : Wk} (hw : WOk ws) {l : List Rn} (hl : ∀ (j : Nat) (r : Rn), l[j]? = some r → RnOk ws r) (i : Nat) : ∀ j, 0 ≤ drunkAt ws l i j ∧ drunkAt ws l i j ≤ j * 1099511627776
  | 0 => by simp [drunkAt]
  | j + 1 => by
    have ih := drunk_b hw hl i j
    rw [drunkAt]
    split
    · rename_i r hr
      obtain ⟨h1, h2⟩ := hl j r hr
      have hb := thr_b hw h2 i
      have := mul_b hb.1 hb.2 (m := r.mn) (by omega) (by omega)
      omega
    · omega
/-- An array of numbers in a block. -/
structure SmA (g : Nat) (f : Nat → Int) (W : World) : Prop where
  c : ∀ i, i < 60 → W.cell? ⟨g, i, none⟩ = some (.int .i64 (f i))
  fz : ∀ i, W.frozen? ⟨g, i, none⟩ = false
theorem SmA.lt {g : Nat} {f : Nat → Int} {W : World} (h : SmA g f W) : g < W.heap.size := World.block_lt_of_cell? _ _ (h.c 0 (by decide))
theorem SmA.grown {g : Nat} {f : Nat → Int} {W W' : World} {bs : List Nat} (h : SmA g f W) (hg : GrownL bs W W') (hn : g ∉ bs) : SmA g f W' :=
  ⟨fun i hi => hg.cell (h.c i hi) hn, fun i => (World.frozen?_of_block (hg.block _ h.lt hn)).trans (h.fz i)⟩
theorem SmA.below {g : Nat} {f : Nat → Int} {W W' : World} (h : SmA g f W) (hb : Below W.heap.size W W') : SmA g f W' := h.grown (GrownL.of_below (bs := []) hb) (by simp)
theorem SmA.congr {g : Nat} {f f' : Nat → Int} {W : World} (h : SmA g f W) (hf : ∀ i, i < 60 → f' i = f i) : SmA g f' W := ⟨fun i hi => by rw [hf i hi]; exact h.c i hi, h.fz⟩
theorem SmA.set {g : Nat} {f : Nat → Int} {W : World} (h : SmA g f W) {k : Nat} (hk : k < 60) (x : Int) : SmA g (fun i => if i = k then x else f i) (W.setCell ⟨g, k, none⟩ (.int .i64 x)) := by
  refine ⟨fun i hi => ?_, fun i => (World.frozen?_setCell _ _ _ _).trans (h.fz i)⟩
  by_cases e : i = k
  · subst e
    simp only [if_pos]
    exact World.cell?_setCell_same' _ _ _ (by rw [h.c i hi]; rfl)
  · simp only [if_neg e]
    exact (World.cell?_setCell_other _ ⟨g, k, none⟩ ⟨g, i, none⟩ _ (by simp <;> omega)).trans (h.c i hi)
set_option maxRecDepth 1000000 in
theorem SmA.zero (W : World) {X : World} (hX : W.alloc (.cells #[.int .i64 0, .int .i64 0, .int .i64 0, .int .i64 0, .int .i64 0, .int .i64 0, .int .i64 0, .int .i64 0, .int .i64 0, .int .i64 0, .int .i64 0, .int .i64 0, .int .i64 0, .int .i64 0, .int .i64 0, .int .i64 0, .int .i64 0, .int .i64 0, .int .i64 0, .int .i64 0, .int .i64 0, .int .i64 0, .int .i64 0, .int .i64 0, .int .i64 0, .int .i64 0, .int .i64 0, .int .i64 0, .int .i64 0, .int .i64 0, .int .i64 0, .int .i64 0, .int .i64 0, .int .i64 0, .int .i64 0, .int .i64 0, .int .i64 0, .int .i64 0, .int .i64 0, .int .i64 0, .int .i64 0, .int .i64 0, .int .i64 0, .int .i64 0, .int .i64 0, .int .i64 0, .int .i64 0, .int .i64 0, .int .i64 0, .int .i64 0, .int .i64 0, .int .i64 0, .int .i64 0, .int .i64 0, .int .i64 0, .int .i64 0, .int .i64 0, .int .i64 0, .int .i64 0, .int .i64 0] 120) = X) : SmA W.heap.size (fun _ => 0) X ∧ Below W.heap.size W X := by
  subst hX
  rw [show (#[.int .i64 0, .int .i64 0, .int .i64 0, .int .i64 0, .int .i64 0, .int .i64 0, .int .i64 0, .int .i64 0, .int .i64 0, .int .i64 0, .int .i64 0, .int .i64 0, .int .i64 0, .int .i64 0, .int .i64 0, .int .i64 0, .int .i64 0, .int .i64 0, .int .i64 0, .int .i64 0, .int .i64 0, .int .i64 0, .int .i64 0, .int .i64 0, .int .i64 0, .int .i64 0, .int .i64 0, .int .i64 0, .int .i64 0, .int .i64 0, .int .i64 0, .int .i64 0, .int .i64 0, .int .i64 0, .int .i64 0, .int .i64 0, .int .i64 0, .int .i64 0, .int .i64 0, .int .i64 0, .int .i64 0, .int .i64 0, .int .i64 0, .int .i64 0, .int .i64 0, .int .i64 0, .int .i64 0, .int .i64 0, .int .i64 0, .int .i64 0, .int .i64 0, .int .i64 0, .int .i64 0, .int .i64 0, .int .i64 0, .int .i64 0, .int .i64 0, .int .i64 0, .int .i64 0, .int .i64 0] : Array Value) = Array.replicate 60 (.int .i64 0) from rfl]
  have hb := World.alloc_heap_new W (.cells (Array.replicate 60 (.int .i64 0)) 120)
  refine ⟨⟨fun i hi => ?_, fun i => by unfold World.frozen?; rw [hb]; simp⟩, (Below.refl _ _).alloc (Nat.le_refl _) _⟩
  rw [cell_of_row _ _ i _ _ _ hb]
  simp [hi]

set_option maxHeartbeats 8000000 in
set_option maxRecDepth 1000000 in
theorem Drunk_any (v lv : Value) (ws : Wk) (l : List Rn) (d : Int) (w : World) (h : RK w.heap.size v ws w) (ht : total ws ≤ 100000) (hl : RN w.heap.size lv l w) (hd : CourseIs ws l d) :
    Calls Try.prog 41 #[.agg #[v], lv] w fun e w' => ∃ u, e = .returned (.tuple #[u, .int .i64 d]) ∧ OwnG encI 1 3 w.heap.size u (okL d (drunkL ws l)) w' ∧ Below w.heap.size w w' := by
  obtain ⟨A, c, rfl, -⟩ := (show ∃ A c, v = .slice A ws.length c ∧ True by obtain ⟨A, c, e, _⟩ := h; exact ⟨A, c, e, trivial⟩)
  obtain ⟨Al, cl, rfl⟩ := hl.form
  have C1 := Lib.hid fun W (hb : Below w.heap.size w W) => checkCourse_any (.slice A ws.length c) _ ws l d W (h.up hb.size hb) ht (hl.up hb.size hb) hd
  have HK := Lib.hid h
  have HL := Lib.hid hl
  have HD := Lib.hid hd
  have S0 := Lib.hid (WC1.new w (.slice A ws.length c))
  clear h hl hd
  go_enter Try.func41, Try.ntmps41
  go_wp2_with fail
  refine (C1.out _ S0.out.bel).mono ?_
  rintro e w1 ⟨rfl, b1⟩
  have S := Lib.hid (S0.out.below b1)
  clear b1 C1 S0
  by_cases hd0 : d = 0
  rotate_left
  · have hdb : (d != 0) = true := by rw [bne_iff_ne]; exact hd0
    have H0 := Lib.hid hd0
    go_wp2_with fail
    refine bodyPost_ret (results_tmp2 rfl _ _ _) rfl ?_
    exact ⟨_, rfl, by rw [okL_ne H0.out]; exact OwnG.nil _ _ _ _ _, S.out.bel⟩
  subst hd0
  have hok : WOk ws ∧ l.length ≤ 60 ∧ ∀ (j : Nat) (r : Rn), l[j]? = some r → RnOk ws r := by
    rcases HD.out with ⟨_, h⟩ | ⟨_, _, h⟩ | ⟨_, _, _, h⟩ | ⟨h, h1, h2, _⟩
    · exact absurd rfl h
    · omega
    · omega
    · exact ⟨h.ok, h1, h2⟩
  have HOK := Lib.hid hok
  have hl60 : (l.length : Int) ≤ 60 := by have := hok.2.1; omega
  clear hok
  go_upto_region 5 with fail
  obtain ⟨W2, hW2⟩ : ∃ W, w1.alloc (.cells #[.int .i64 0, .int .i64 0, .int .i64 0, .int .i64 0, .int .i64 0, .int .i64 0, .int .i64 0, .int .i64 0, .int .i64 0, .int .i64 0, .int .i64 0, .int .i64 0, .int .i64 0, .int .i64 0, .int .i64 0, .int .i64 0, .int .i64 0, .int .i64 0, .int .i64 0, .int .i64 0, .int .i64 0, .int .i64 0, .int .i64 0, .int .i64 0, .int .i64 0, .int .i64 0, .int .i64 0, .int .i64 0, .int .i64 0, .int .i64 0, .int .i64 0, .int .i64 0, .int .i64 0, .int .i64 0, .int .i64 0, .int .i64 0, .int .i64 0, .int .i64 0, .int .i64 0, .int .i64 0, .int .i64 0, .int .i64 0, .int .i64 0, .int .i64 0, .int .i64 0, .int .i64 0, .int .i64 0, .int .i64 0, .int .i64 0, .int .i64 0, .int .i64 0, .int .i64 0, .int .i64 0, .int .i64 0, .int .i64 0, .int .i64 0, .int .i64 0, .int .i64 0, .int .i64 0, .int .i64 0] 120) = W := ⟨_, rfl⟩
  obtain ⟨hA, b2⟩ := SmA.zero _ hW2
  rw [hW2]
  have S2 := Lib.hid (S.out.below b2)
  have A2 := Lib.hid hA
  have HG : Hid (w.heap.size + 1 ≤ w1.heap.size) := Lib.hid S.out.siz
  obtain ⟨g, hg⟩ : ∃ g, w1.heap.size = g := ⟨_, rfl⟩
  rw [hg] at A2 HG ⊢
  clear hW2 b2 hA hg S
  go_wp2_with fail
  go_loopw [21] (fun a wr => ∃ j : Nat, a = .int .i64 j ∧ j ≤ l.length ∧ SmA g (fun i => drunkAt ws l i j) wr ∧ WC1 w (.slice A ws.length c) wr) (fun a _ => l.length - (intOf a).toNat)
  case atStart => exact ⟨0, rfl, by omega, A2.out, S2.out⟩
  case round =>
    obtain ⟨j, rfl, hj, hA, hS⟩ := hrel
    obtain ⟨wo, rfl⟩ : ∃ wo, wo = wr := ⟨_, rfl⟩
    have S := Lib.hid hS
    have AS := Lib.hid hA
    have HGO := Lib.hid hA.lt
    clear hS hA S2 A2
    by_cases hjl : j < l.length
    · have hj0 : (j : Int) < (l.length : Int) := by omega
      obtain ⟨r, hr⟩ : ∃ r, l[j]? = some r := ⟨_, List.getElem?_eq_getElem hjl⟩
      have HR := Lib.hid hr
      obtain ⟨b, o, rfl, hlt, q0, A1, c1, A2, c2, A3, c3, A4, c4, q1, q2, q3, q4, q5⟩ := rn_at (HL.out.up S.out.bel.size S.out.bel) hr
      have Q := Lib.hid q5
      clear q5 hr
      go_upto_region 8 with fail
      obtain ⟨X, hX⟩ : ∃ X, wo.alloc (.cells #[.int .i64 r.mn, .slice A1 r.wa.river.length c1, .slice A2 r.wa.boards.length c2, .slice A3 r.wa.leaks.length c3, .slice A4 r.wa.losses.length c4] 78) = X := ⟨_, rfl⟩
      rw [hX]
      obtain ⟨x0, x1, x2, x3, x4, bX⟩ := run_new wo _ _ _ _ _ hX
      have SX := Lib.hid (S.out.below bX)
      have AX := Lib.hid (AS.out.below bX)
      have QX := Lib.hid (Q.out.up bX.size bX)
      have y0 := SX.out.wk
      have X0 := Lib.hid x0
      clear hX bX q0 q1 q2 q3 q4 S Q AS
      have HOR := Lib.hid (HOK.out.2.2 j r HR.out)
      go_wp2_with fail
      refine (run_any A c _ ws r.wa _ (HK.out.up SX.out.bel.size SX.out.bel) QX.out HOK.out.1 HOR.out.2).mono ?_
      rintro e w5 ⟨rfl, b5⟩
      have S5 := Lib.hid (SX.out.below b5)
      have A5 := Lib.hid (AX.out.below b5)
      have X5 := Lib.hid (BelS.c b5 X0.out)
      clear b5 x0 x1 x2 x3 x4 y0 SX AX X0
      obtain ⟨F, hF⟩ : ∃ F, flowF ws r.wa = F := ⟨_, rfl⟩
      have HF := Lib.hid hF
      rw [hF]
      clear hF
      obtain ⟨W6, r6, f6, b6⟩ := stream_box F w5
      have R6 := Lib.hid r6
      have F6 := Lib.hid f6
      have S6 := Lib.hid (S5.out.below b6)
      have A6 := Lib.hid (A5.out.below b6)
      have X6 := Lib.hid (BelS.c b6 X5.out)
      have HGW : Hid (g < wo.heap.size) := Lib.hid HGO.out
      have HPQ : Hid (wo.heap.size < w5.heap.size) := Lib.hid (World.block_lt_of_cell? _ _ X5.out)
      have hln := fsL_len F
      clear r6 f6 b6 S5 A5 X5
      go_wp2_with fail
      rw [R6.out]
      have hgp : g < wo.heap.size := HGW.out
      have hpq : wo.heap.size < w5.heap.size := HPQ.out
      have rl := run_loadAt_mid (P := Try.prog) W6 w5.heap.size 0 120 (thrL F) _ (fun i v hi => by
        have h60 : i < 60 := by have := (List.getElem?_eq_some_iff.1 hi).1; simpa [thrL] using this
        unfold thrL at hi
        rw [List.getElem?_map, List.getElem?_range h60] at hi
        cases hi
        rw [Nat.zero_add]
        exact F6.out.thr i h60) Try.underlying120 rfl (by rw [show (thrL F).length = 60 by simp [thrL]]; kernel_rfl)
      have RL := Lib.hid rl
      clear rl
      go_upto_region 9 with fail
      go_step
      refine wpList_plain rfl fun Kx hKx => ?_
      go_step
      refine hKx _ _ ?_
      refine wpList_plain rfl fun Ky hKy => ?_
      refine wp_load_run 120 _ rfl (u := .pointer (some ⟨w5.heap.size, 0, none⟩)) rfl RL.out ?_
      refine hKy _ _ ?_
      clear hKx hKy Kx Ky
      simp only [aS]
      go_wp2_with fail
      go_loopw [31] (fun a wr => ∃ k : Nat, a = .int .i64 k ∧ k ≤ 60 ∧ SmA g (fun i => if i < k then drunkAt ws l i (j + 1) else drunkAt ws l i j) wr ∧ WC1 w (.slice A ws.length c) wr ∧ wr.cell? ⟨wo.heap.size, 0, none⟩ = some (.int .i64 r.mn)) (fun a _ => 60 - (intOf a).toNat)
      case atStart => exact ⟨0, rfl, by omega, A6.out.congr (fun i _ => by simp), S6.out, X6.out⟩
      case round =>
        obtain ⟨k, rfl, hk, hA, hS, hX⟩ := hrel
        have S := Lib.hid hS
        have AS := Lib.hid hA
        have XS := Lib.hid hX
        clear hS hA hX RL
        by_cases hkl : k < 60
        · have hk0 : (k : Int) < 60 := by omega
          have fa := fs_at F k hkl
          have q0 := XS.out
          have q1 := AS.out.c k hkl
          have q2 := AS.out.fz k
          simp only [Nat.lt_irrefl, if_false] at q1
          have hb1 := thr_b HOK.out.1 HOR.out.2 k
          rw [HF.out] at hb1
          have hb2 := drunk_b HOK.out.1 HOK.out.2.2 k j
          have hb3 := mul_b hb1.1 hb1.2 (m := r.mn) (by have := HOR.out.1; omega) (by have := HOR.out.1; omega)
          obtain ⟨f, hf⟩ : ∃ f, F.thr.getD k 0 = f := ⟨_, rfl⟩
          obtain ⟨z, hz⟩ : ∃ z, drunkAt ws l k j = z := ⟨_, rfl⟩
          rw [hf] at hb1 hb3 fa
          rw [hz] at hb2 q1
          have HFF := Lib.hid hf
          have HZZ := Lib.hid hz
          clear hf hz
          have hw1 : IntKind.i64.wrap (f * r.mn) = f * r.mn := IntWalk.i64_in _ (by omega)
          have hjb : (j : Int) ≤ 60 := by omega
          have hw2 : IntKind.i64.wrap (z + f * r.mn) = z + f * r.mn := IntWalk.i64_in _ (by omega)
          go_upto_region 12 with fail
          go_region
          obtain ⟨Y, hY⟩ : ∃ Y, wr.setCell ⟨g, k, none⟩ (.int .i64 (z + f * r.mn)) = Y := ⟨_, rfl⟩
          have gY : GrownL [g] wr Y := by rw [← hY]; exact GrownL.set _ _ _ (by simp)
          have aY := AS.out.set hkl (z + f * r.mn)
          rw [hY] at aY ⊢
          have hgw := HG.out
          have SY : Hid (WC1 w (.slice A ws.length c) Y) := Lib.hid ⟨gY.cell S.out.wk (by simp; omega), S.out.bel.trans (gY.below (by simp; omega) S.out.bel.size)⟩
          have AY := Lib.hid aY
          have XY := Lib.hid (gY.cell XS.out (by simp; omega))
          clear hY gY aY q0 q1 q2 fa hw1 hw2
          go_wp2_with fail
          go_roundw
          case rel => exact ⟨k + 1, by go_num, by omega, (AY.out.below (Below.refl _ _).drew).congr (fun i hi => by
            by_cases e : i = k
            · subst e
              rw [if_pos (by omega), if_pos rfl, drunkAt_succ _ HR.out, HF.out, HFF.out, HZZ.out]
            · rw [if_neg e]
              by_cases e2 : i < k
              · rw [if_pos e2, if_pos (by omega)]
              · rw [if_neg e2, if_neg (by omega)]), SY.out.below (Below.refl _ _).drew, BelS.c (Below.refl _ _).drew XY.out⟩
          case measure => show 60 - ((k : Int) + 1).toNat < 60 - (k : Int).toNat; omega
        · have hk0 : (60 : Int) ≤ (k : Int) := by omega
          go_wp2_with fail
          go_roundw
          case rel => exact ⟨j + 1, by go_num, by omega, AS.out.congr (fun i hi => by rw [if_pos (by omega)]), S.out⟩
          case measure => show l.length - ((j : Int) + 1).toNat < l.length - (j : Int).toNat; omega
    · have hj0 : (l.length : Int) ≤ (j : Int) := by omega
      obtain rfl : j = l.length := by omega
      have C3 := Lib.hid fun W (hb : Below w.heap.size w W) => count_any A ws.length c ws W (HK.out.up hb.size hb) (by omega)
      have x0 := S.out.wk
      go_upto_region 15 with fail
      refine wp_region_held_drew (S := BelS wo) (by kernel_rfl) (BelS.drew0 _) (fun J0 => ?_)
      refine tw 0 46 J0 ?_ (hy := by intro w' hSw; have q0 := hSw.c x0; go_simp; try with_reducible rfl)
      try simp only [aS]
      refine tw 1 47 J0 ?_ (hy := by intro w' hSw; have q0 := hSw.c x0; go_simp; try with_reducible rfl)
      try simp only [aS]
      refine wpAnyH_ready (rs := [2]) (by kernel_rfl) (by simp) ?_
      refine AllReadyH.cons rfl (fun K hK => ?_) AllReadyH.nil
      go_simp
      refine (C3.out _ (S.out.bel.trans ((BelS.b J0).mono S.out.bel.size))).mono ?_
      rintro e wq1 ⟨rfl, hq1⟩
      have J1 := J0.below hq1
      clear hq1
      refine hK.out _ _ J1 (fun _ => ?_)
      clear hK
      try simp only [aS]
      refine wpAnyH_ready (rs := [3]) (by kernel_rfl) (by simp) ?_
      refine AllReadyH.cons rfl (fun K hK => ?_) AllReadyH.nil
      go_simp
      have AE := AS.out.below (BelS.b J1)
      have hr60 : RR encI wq1.heap.size (.slice (some ⟨g, 0, none⟩) ((List.range 60).map fun i => drunkAt ws l i l.length).length 60) ((List.range 60).map fun i => drunkAt ws l i l.length) wq1 := by
        rw [show ((List.range 60).map fun i => drunkAt ws l i l.length).length = 60 by simp]
        exact rr_of_cells (by simp) (by decide) AE.lt (fun i x hx => by
          have hi : i < 60 := by simpa using (List.getElem?_eq_some_iff.1 hx).1
          rw [List.getElem?_map, List.getElem?_range hi] at hx
          cases hx
          rw [Nat.zero_add]
          exact AE.c i hi) 60
      have htt := HOK.out.1.tot
      refine (cutI_any _ 60 (total ws) ((List.range 60).map fun i => drunkAt ws l i l.length) _ hr60 (by simp; omega) (by simp) (by omega)).mono ?_
      rintro e wq2 ⟨u, rfl, hu, hq2⟩
      have J2 := J1.below hq2
      have HU : Hid (OwnG encI 1 3 w.heap.size u (drunkL ws l) wq2) := Lib.hid (by
        have e1 : ((List.range 60).map fun i => drunkAt ws l i l.length).take (total ws) = drunkL ws l := by
          rw [← List.map_take, List.take_range, Nat.min_eq_left (by omega)]
          rfl
        rw [e1] at hu
        exact hu.low (by have h1 := (BelS.b J1).size; have h2 := S.out.siz; omega))
      clear hu hq2 hr60 AE
      refine hK.out _ _ J2 (fun _ => ?_)
      clear hK
      try simp only [aS]
      refine tw 4 4 J2 ?_ (hy := by intro w' hSw; have q0 := hSw.c x0; go_simp; try with_reducible rfl)
      try simp only [aS]
      refine tw 5 5 J2 ?_ (hy := by intro w' hSw; have q0 := hSw.c x0; go_simp; try with_reducible rfl)
      try simp only [aS]
      refine wpAnyH_done (by kernel_rfl) ?_ _
      have BE := Lib.hid (S.out.bel.trans ((BelS.b J2).mono S.out.bel.size))
      clear J0 J1 J2 x0
      go_wp2_with fail
      refine bodyPost_ret (results_tmp2 rfl _ _ _) rfl ?_
      exact ⟨_, rfl, by rw [okL_zero]; exact HU.out, BE.out⟩
end Go.Proofs.Ytkoacclbempmdaa

/- Contract of the specification's flow. -/
namespace Go.Proofs.Ytkoacclbempmdaa
open Go.RowKit

theorem GL.setO {g base : Nat} {us : List Value} {ls : List (List Int)} {W : World} (h : GL g base us ls W) {k : Nat} (hk : us.length ≤ k) (x : Value) : GL g base us ls (W.setCell ⟨g, k, none⟩ x) := by
  have gs : GrownL [g] W (W.setCell ⟨g, k, none⟩ x) := GrownL.set _ _ _ (by simp)
  refine ⟨fun j u hj => ?_, fun j => (World.frozen?_setCell _ _ _ _).trans (h.f j), fun j u l hu hl => (h.o j u l hu hl).grown gs (fun b hb hm => by have := (h.own hu hb).1; have := h.gb; simp at hm; omega), h.d, h.gb, by simp; exact h.gl, h.len⟩
  have := (List.getElem?_eq_some_iff.1 hj).1
  exact (World.cell?_setCell_other _ ⟨g, k, none⟩ ⟨g, j, none⟩ _ (by simp <;> omega)).trans (h.c j u hj)
/-- What the specification's flow keeps besides its lists. -/
structure FlK (w : World) (v a b c d : Value) (W : World) : Prop where
  wk : W.cell? ⟨w.heap.size, 0, none⟩ = some v
  r : W.cell? ⟨w.heap.size + 1, 0, none⟩ = some a
  b : W.cell? ⟨w.heap.size + 1, 1, none⟩ = some b
  k : W.cell? ⟨w.heap.size + 1, 2, none⟩ = some c
  l : W.cell? ⟨w.heap.size + 1, 3, none⟩ = some d
  z0 : W.cell? ⟨w.heap.size + 1 + 1, 0, none⟩ = some (.slice none 0 0)
  z1 : W.cell? ⟨w.heap.size + 1 + 1, 1, none⟩ = some (.slice none 0 0)
  z2 : W.cell? ⟨w.heap.size + 1 + 1, 2, none⟩ = some (.int .i64 0)
  fz : ∀ i, W.frozen? ⟨w.heap.size + 1 + 1, i, none⟩ = false
  bel : Below w.heap.size w W
section
variable {w W W' : World} {v a b c d : Value}
theorem FlK.siz (h : FlK w v a b c d W) : w.heap.size + 3 ≤ W.heap.size := World.block_lt_of_cell? _ _ h.z0
theorem FlK.grown {bs : List Nat} (h : FlK w v a b c d W) (hg : GrownL bs W W') (hn : ∀ k ∈ bs, w.heap.size + 3 ≤ k) : FlK w v a b c d W' := by
  have n0 : ∀ k, k < w.heap.size + 3 → k ∉ bs := fun k hk hm => by have := hn k hm; omega
  have n1 := n0 w.heap.size (by omega)
  have n2 := n0 (w.heap.size + 1) (by omega)
  have n3 := n0 (w.heap.size + 1 + 1) (by omega)
  exact ⟨hg.cell h.wk n1, hg.cell h.r n2, hg.cell h.b n2, hg.cell h.k n2, hg.cell h.l n2, hg.cell h.z0 n3, hg.cell h.z1 n3, hg.cell h.z2 n3,
    fun i => (World.frozen?_of_block (a := ⟨w.heap.size + 1 + 1, i, none⟩) (hg.block (w.heap.size + 1 + 1) (World.block_lt_of_cell? _ _ h.z0) n3)).trans (h.fz i), h.bel.trans (hg.below (fun k hk => by have := hn k hk; omega) h.bel.size)⟩
theorem FlK.below (h : FlK w v a b c d W) (hb : Below W.heap.size W W') : FlK w v a b c d W' := h.grown (GrownL.of_below (bs := []) hb) (by simp)
end
/-- The result in the making: two lists of its own, and a number. -/
structure FlO (g base : Nat) (u1 u2 : Value) (l1 l2 : List Int) (n : Int) (W : World) : Prop where
  gl : GL g base [u1, u2] [l1, l2] W
  n : W.cell? ⟨g, 2, none⟩ = some (.int .i64 n)
section
variable {g base : Nat} {u1 u2 v' : Value} {l1 l2 : List Int} {n m x : Int} {W W' W4 : World}
theorem FlO.c1 (h : FlO g base u1 u2 l1 l2 n W) : W.cell? ⟨g, 0, none⟩ = some u1 := h.gl.c 0 u1 rfl
theorem FlO.c2 (h : FlO g base u1 u2 l1 l2 n W) : W.cell? ⟨g, 1, none⟩ = some u2 := h.gl.c 1 u2 rfl
theorem FlO.o1 (h : FlO g base u1 u2 l1 l2 n W) : OwnG encI 1 3 base u1 l1 W := h.gl.o 0 u1 l1 rfl rfl
theorem FlO.o2 (h : FlO g base u1 u2 l1 l2 n W) : OwnG encI 1 3 base u2 l2 W := h.gl.o 1 u2 l2 rfl rfl
theorem FlO.grown {bs : List Nat} (h : FlO g base u1 u2 l1 l2 n W) (hg : GrownL bs W W') (hn : g ∉ bs) (hr : ∀ k ∈ bs, k < base ∨ W.heap.size ≤ k) : FlO g base u1 u2 l1 l2 n W' := ⟨h.gl.grown hg hn hr, hg.cell h.n hn⟩
theorem FlO.below (h : FlO g base u1 u2 l1 l2 n W) (hb : Below W.heap.size W W') : FlO g base u1 u2 l1 l2 n W' := h.grown (GrownL.of_below (bs := []) hb) (by simp) (by simp)
theorem FlO.setn (h : FlO g base u1 u2 l1 l2 n W) (m : Int) : FlO g base u1 u2 l1 l2 m (W.setCell ⟨g, 2, none⟩ (.int .i64 m)) := ⟨h.gl.setO (by simp) _, World.cell?_setCell_same' _ _ _ (by rw [h.n]; rfl)⟩
theorem FlO.app1 (h : FlO g base u1 u2 l1 l2 n W) (hg : GrownL u1.ownBlock.toList W W4) (ho : OwnG encI 1 3 base v' (l1 ++ [x]) W4) (ha : v'.ownBlock = u1.ownBlock ∨ ∃ n, v'.ownBlock = some n ∧ W.heap.size ≤ n) : FlO g base v' u2 (l1 ++ [x]) l2 n (W4.setCell ⟨g, 0, none⟩ v') := by
  have hn : g ∉ u1.ownBlock.toList := fun hm => by have := (h.o1.lt g (by simpa using hm)).1; have := h.gl.gb; omega
  exact ⟨h.gl.app (k := 0) rfl rfl hg ho ha, (World.cell?_setCell_other _ ⟨g, 0, none⟩ ⟨g, 2, none⟩ _ (by simp)).trans (hg.cell h.n hn)⟩
theorem FlO.app2 (h : FlO g base u1 u2 l1 l2 n W) (hg : GrownL u2.ownBlock.toList W W4) (ho : OwnG encI 1 3 base v' (l2 ++ [x]) W4) (ha : v'.ownBlock = u2.ownBlock ∨ ∃ n, v'.ownBlock = some n ∧ W.heap.size ≤ n) : FlO g base u1 v' l1 (l2 ++ [x]) n (W4.setCell ⟨g, 1, none⟩ v') := by
  have hn : g ∉ u2.ownBlock.toList := fun hm => by have := (h.o2.lt g (by simpa using hm)).1; have := h.gl.gb; omega
  exact ⟨h.gl.app (k := 1) rfl rfl hg ho ha, (World.cell?_setCell_other _ ⟨g, 1, none⟩ ⟨g, 2, none⟩ _ (by simp)).trans (hg.cell h.n hn)⟩
end
def FlowR (ws : Wk) (s : Wa) (w : World) (e : Ending) (w' : World) : Prop := ∃ v1 v2, e = .returned (.agg #[v1, v2, .int .i64 (flowF ws s).lost]) ∧ OwnG encI 1 3 w.heap.size v1 (flowF ws s).thr w' ∧ OwnG encI 1 3 w.heap.size v2 (tailsL ws s) w' ∧ Below w.heap.size w w'
def tailsTo (ws : Wk) (s : Wa) (c : Nat) : List Int := (List.range c).map (flowF ws s).t
theorem tailsTo_succ (ws : Wk) (s : Wa) (c : Nat) : tailsTo ws s (c + 1) = tailsTo ws s c ++ [(flowF ws s).t c] := by
  unfold tailsTo
  rw [List.range_succ, List.map_append]
  rfl
/-- What a carrier has at its beginning. -/
theorem t_start {ws : Wk} (hw : WOk ws) (s : Wa) {c : Nat} {r : Int} (hr : FstIs (fun o : Ou => o.into) (outs ws) c r) : (r = -1 ∧ (flowTo ws s (pre ws c)).t c = startT ws s c) ∨ ∃ j : Nat, r = j ∧ j < pre ws c ∧ (flowTo ws s (pre ws c)).t c = (flowTo ws s (pre ws c)).thr.getD j 0 := by
  have h := t_before hw s hr (pre ws c) (Nat.le_refl _)
  have hr' := hr
  rcases hr with ⟨i, o, ho, he, -, rfl⟩ | ⟨-, rfl⟩
  · right
    obtain ⟨q, hq⟩ := at_total (ws := ws) (n := i) (by have := (List.getElem?_eq_some_iff.1 ho).1; rw [outs_len] at this; exact this)
    have := (outs_get hq).1
    rw [ho] at this
    cases this
    have hlt := (hw.into_lt hq he).1
    obtain ⟨-, os, h1, h2, h3⟩ := allP_inv hq
    have h4 := pre_succ h1
    have h5 : pre ws (q.c + 1) ≤ pre ws c := pre_mono hlt
    have h6 := (List.getElem?_eq_some_iff.1 h2).1
    refine ⟨i, rfl, by omega, ?_⟩
    rw [h, if_pos (by omega)]
    simp
  · left
    refine ⟨rfl, ?_⟩
    rw [h, if_neg (by omega)]

set_option maxHeartbeats 16000000 in
set_option maxRecDepth 1000000 in
theorem rflow_any (A : Option Addr) (c : Nat) (wv : Value) (ws : Wk) (s : Wa) (w : World) (h : RK w.heap.size (.slice A ws.length c) ws w) (hs : RWa w.heap.size wv s w) (hw : WOk ws) (ho : WaOk ws s) :
    Calls Try.prog 118 #[.agg #[.slice A ws.length c], wv] w (FlowR ws s w) := by
  obtain ⟨i0, hz0, hi1, hi2, hi3⟩ := info_parts infoInt
  obtain ⟨A1, c1, A2, c2, A3, c3, A4, c4, rfl⟩ := hs.form
  have ht : total ws ≤ 100000 := by have := hw.tot; omega
  have hln : ws.length ≤ 100000 := by have := hw.len; omega
  have C1 := Lib.hid fun W (hb : Below w.heap.size w W) => rheads_any A ws.length c ws W (h.up hb.size hb) ht hln
  have C2 := Lib.hid fun (k : Nat) (r : Int) (hr : FstIs (fun o : Ou => o.into) (outs ws) k r) W (hb : Below w.heap.size w W) => rfeeder_any A ws.length c ws k r W (h.up hb.size hb) ht hr
  have H := Lib.hid h
  have HS := Lib.hid hs
  have HW := Lib.hid hw
  have HO := Lib.hid ho
  obtain ⟨W0, hW0⟩ : ∃ W0, ((((w.alloc (.cells #[.slice A ws.length c] 24)).alloc (.cells #[.slice A1 s.river.length c1, .slice A2 s.boards.length c2, .slice A3 s.leaks.length c3, .slice A4 s.losses.length c4] 27)).alloc (.cells #[.slice none 0 0, .slice none 0 0, .int .i64 0] 171)).alloc (.cells #[.slice none 0 0, .slice none 0 0, .int .i64 0] 171)) = W0 := ⟨_, rfl⟩
  have K0 : Hid (FlK w (.slice A ws.length c) (.slice A1 s.river.length c1) (.slice A2 s.boards.length c2) (.slice A3 s.leaks.length c3) (.slice A4 s.losses.length c4) W0) := Lib.hid (by rw [← hW0]; exact ⟨by simp [go_sem], by simp [go_sem], by simp [go_sem], by simp [go_sem], by simp [go_sem], by simp [go_sem], by simp [go_sem], by simp [go_sem], fun i => by simp [go_sem], ((((Below.refl _ _).alloc (Nat.le_refl _) _).alloc (by simp) _).alloc (by simp; omega) _).alloc (by simp; omega) _⟩)
  have B0 : Hid ((∀ j, j < 2 → W0.cell? ⟨w.heap.size + 1 + 1 + 1, j, none⟩ = some (.slice none 0 0)) ∧ (∀ j, W0.frozen? ⟨w.heap.size + 1 + 1 + 1, j, none⟩ = false) ∧ W0.cell? ⟨w.heap.size + 1 + 1 + 1, 2, none⟩ = some (.int .i64 0) ∧ W0.heap.size = w.heap.size + 4) := Lib.hid (by
    rw [← hW0]
    refine ⟨fun j hj => ?_, fun j => by simp [go_sem], by simp [go_sem], by simp⟩
    match j, hj with
    | 0, _ => simp [go_sem]
    | 1, _ => simp [go_sem]
    | j + 2, hj => omega)
  have HW0 := Lib.hid hW0
  clear h hs hw ho ht hln hW0
  go_enter Try.func118, Try.ntmps118
  go_upto_region 2 with fail
  rw [HW0.out]
  have x0 := K0.out.wk
  go_wp2_with fail
  refine (C1.out _ K0.out.bel).mono ?_
  rintro e w1 ⟨hv, rfl, hhv, b1⟩
  have K1 := Lib.hid (K0.out.below b1)
  have hhl := headsL_len HW.out
  have HB : Hid (∀ b, hv.ownBlock = some b → w.heap.size + 4 ≤ b ∧ b < w1.heap.size) := Lib.hid (fun b hb => by have := hhv.lt b hb; have := B0.out.2.2.2; omega)
  have H1 := Lib.hid (hhv.rr EI (by show (headsL ws).length ≤ 1000000000000000; omega))
  obtain ⟨Ah, ch, rfl, -⟩ := hhv.form
  have hsz : w.heap.size + 4 ≤ w1.heap.size := by have := B0.out.2.2.2; have := b1.size; omega
  have HSZ := Lib.hid hsz
  have G0 : Hid (FlO (w.heap.size + 1 + 1 + 1) w1.heap.size (.slice none 0 0) (.slice none 0 0) [] [] 0 w1) := Lib.hid (by
    have hc := fun (p : Addr) (h : p.block < W0.heap.size) => b1.cell (p := p) h
    have hl : w.heap.size + 1 + 1 + 1 < W0.heap.size := by have := B0.out.2.2.2; omega
    exact ⟨GL.nils (by omega) (by omega) 2 (fun k hk => (hc ⟨_, k, none⟩ hl).trans (B0.out.1 k hk)) (fun k => (b1.frozen (p := ⟨w.heap.size + 1 + 1 + 1, k, none⟩) hl).trans (B0.out.2.1 k)), (hc ⟨_, 2, none⟩ hl).trans B0.out.2.2.1⟩)
  obtain ⟨nh, hnh⟩ : ∃ nh, (headsL ws).length = nh := ⟨_, rfl⟩
  have HNH := Lib.hid hnh
  rw [hnh] at H1 HB hhl ⊢
  have hh0 : (nh : Int) ≤ 16 := by omega
  have h16 := HW.out.len
  clear hhv b1 hnh x0 hsz
  go_wp2_with fail
  go_loopw [7, 8] (fun n i wr => ∃ (k : Nat) (u1 u2 : Value), i = .int .i64 k ∧ k ≤ ws.length ∧ n = .int .i64 (pre ws k) ∧ FlO (w.heap.size + 1 + 1 + 1) w1.heap.size u1 u2 (flowTo ws s (pre ws k)).thr (tailsTo ws s k) (flowTo ws s (pre ws k)).lost wr ∧ FlK w (.slice A ws.length c) (.slice A1 s.river.length c1) (.slice A2 s.boards.length c2) (.slice A3 s.leaks.length c3) (.slice A4 s.losses.length c4) wr ∧ GrownL [w.heap.size + 1 + 1 + 1] w1 wr) (fun _ i _ => ws.length - (intOf i).toNat)
  case atStart => exact ⟨0, _, _, rfl, by omega, by rw [pre_zero]; rfl, by rw [pre_zero]; exact G0.out, K1.out, GrownL.refl _ _⟩
  case round =>
    obtain ⟨k, u1, u2, rfl, hk, rfl, hG, hK, hgr⟩ := hrel
    have HG := Lib.hid hG
    have KK := Lib.hid hK
    have HGR := Lib.hid hgr
    have x0 := hK.wk
    clear hG hK hgr G0 K1
    by_cases hkl : k < ws.length
    · have hk0 : (k : Int) < (ws.length : Int) := by omega
      have HSN := Lib.hid (startN_zero ws s)
      go_wp2_with fail
      go_loopw [9, 10] (fun f i wx => ∃ j : Nat, i = .int .i64 j ∧ j ≤ nh ∧ f = .int .i64 (startN ws s j k) ∧ wx = wr) (fun _ i _ => nh - (intOf i).toNat)
      case atStart => exact ⟨0, rfl, by omega, by rw [HSN.out], rfl⟩
      case round =>
        obtain ⟨j, rfl, hj, rfl, rfl⟩ := hrel
        by_cases hjl : j < nh
        · have hj0 : (j : Int) < (nh : Int) := by omega
          obtain ⟨x, hx⟩ : ∃ x, (headsN ws)[j]? = some x := ⟨_, List.getElem?_eq_getElem (by have := HNH.out; simp [headsL] at this; omega)⟩
          have hxl : (headsL ws)[j]? = some (x : Int) := by unfold headsL; rw [List.getElem?_map, hx]; rfl
          obtain ⟨y, hy⟩ : ∃ y, s.river[j]? = some y := ⟨_, List.getElem?_eq_getElem (by have := HO.out.r; have := HNH.out; simp [headsL] at this; omega)⟩
          obtain ⟨bh, oh, rfl, hbh, q1⟩ := H1.out.int hxl
          have hjr : (j : Int) < (s.river.length : Int) := by have := (List.getElem?_eq_some_iff.1 hy).1; omega
          have y1 : wr.cell? ⟨bh, oh + j, none⟩ = some (.int .i64 x) := HGR.out.cell q1 (fun hm => by have := (HB.out bh rfl).1; simp at hm; omega)
          obtain ⟨br, or, rfl, hbr, q2⟩ := (HS.out.parts.1.up KK.out.bel.size KK.out.bel).int hy
          have x1 := KK.out.r
          have HST := Lib.hid (startN_succ s hx hy k)
          clear q1 hx hxl hy
          by_cases hxk : x = k
          · have hbq : ((x : Int) == (k : Int)) = true := by rw [beq_iff_eq]; omega
            go_wp2_with fail
            go_roundw
            case rel => exact ⟨j + 1, by go_num, by omega, by rw [HST.out, if_pos hxk.symm], trivial⟩
            case measure => show nh - ((j : Int) + 1).toNat < nh - (j : Int).toNat; omega
          · have hbq : ((x : Int) == (k : Int)) = false := by rw [beq_eq_false_iff_ne]; omega
            go_wp2_with fail
            go_roundw
            case rel => exact ⟨j + 1, by go_num, by omega, by rw [HST.out, if_neg (fun e => hxk e.symm)], trivial⟩
            case measure => show nh - ((j : Int) + 1).toNat < nh - (j : Int).toNat; omega
        · have hj0 : (nh : Int) ≤ (j : Int) := by omega
          obtain rfl : j = nh := by omega
          rw [startN_all ws s (by have := HNH.out; simp [headsL] at this; omega)]
          obtain ⟨r, hr⟩ := FstIs.exists_ (fun o : Ou => o.into) (outs ws) (k : Int)
          have HR := Lib.hid hr
          have HTS := Lib.hid (t_start HW.out s hr)
          clear hr
          go_wp2_with fail
          refine (C2.out k r HR.out _ KK.out.bel).mono ?_
          rintro e w2 ⟨rfl, b2⟩
          have KK2 := Lib.hid (KK.out.below b2)
          have HG2 := Lib.hid (HG.out.below b2)
          have HGR2 : Hid (GrownL [w.heap.size + 1 + 1 + 1] w1 w2) := Lib.hid (HGR.out.trans (GrownL.of_below b2))
          clear b2
          have hrj : (r = -1) ∨ 0 ≤ r := by rcases HTS.out with ⟨h, -⟩ | ⟨j, h, -⟩ <;> omega
          go_upto_if 46 with fail
          go_cut [9] (fun f wx => f = .int .i64 ((flowTo ws s (pre ws k)).t k) ∧ wx = w2)
          case first =>
            rcases HTS.out with ⟨rfl, ht0⟩ | ⟨j, rfl, hj1, ht0⟩
            · have HT0 := Lib.hid ht0
              clear ht0
              go_wp2_with fail
              go_meet
              case rel => exact ⟨by rw [HT0.out], rfl⟩
            · obtain ⟨U1, d1, rfl, -⟩ := HG2.out.o1.form
              have hl1 := thr_len ws s (pre ws k) (pre_le ws k)
              obtain ⟨y, hy⟩ : ∃ y, (flowTo ws s (pre ws k)).thr[j]? = some y := ⟨_, List.getElem?_eq_getElem (by omega)⟩
              have R1 := Lib.hid (HG2.out.o1.rr EI (by rw [hl1]; have := pre_le ws k; have := HW.out.tot; show pre ws k ≤ 1000000000000000; omega))
              rw [hl1] at HG2 R1
              obtain ⟨b, o, rfl, hb, q1⟩ := R1.out.int hy
              have y0 := HG2.out.c1
              have HT0 : Hid ((flowTo ws s (pre ws k)).t k = y) := Lib.hid (by rw [ht0, List.getD_eq_getElem?_getD, hy]; rfl)
              have hj0 : (j : Int) < (pre ws k : Int) := by omega
              have hjn : (0 : Int) ≤ (j : Int) := by omega
              obtain ⟨pk, hpk⟩ : ∃ pk, pre ws k = pk := ⟨_, rfl⟩
              have HPK := Lib.hid hpk
              rw [hpk] at y0 hj0
              clear ht0 hy hl1 hpk
              go_wp2_with fail
              go_meet
              case rel => exact ⟨by rw [HT0.out], rfl⟩
          case rest =>
            obtain ⟨rfl, rfl⟩ := hcut
            obtain ⟨os, hos⟩ : ∃ os, ws[k]? = some os := ⟨_, List.getElem?_eq_getElem hkl⟩
            have HOS := Lib.hid hos
            have x0 := KK2.out.wk
            clear hos KK HG HGR HTS
            go_wp2_with fail
            go_loopw [7, 9, 12] (fun n f i wx => ∃ (j : Nat) (u1 : Value), i = .int .i64 j ∧ j ≤ os.length ∧ n = .int .i64 ((pre ws k + j : Nat) : Int) ∧ f = .int .i64 ((flowTo ws s (pre ws k + j)).t k) ∧ FlO (w.heap.size + 1 + 1 + 1) w1.heap.size u1 u2 (flowTo ws s (pre ws k + j)).thr (tailsTo ws s k) (flowTo ws s (pre ws k + j)).lost wx ∧ FlK w (.slice A ws.length c) (.slice A1 s.river.length c1) (.slice A2 s.boards.length c2) (.slice A3 s.leaks.length c3) (.slice A4 s.losses.length c4) wx ∧ GrownL [w.heap.size + 1 + 1 + 1] w1 wx) (fun _ _ i _ => os.length - (intOf i).toNat)
            case atStart => exact ⟨0, _, rfl, by omega, rfl, rfl, HG2.out, KK2.out, HGR2.out⟩
            case round =>
              obtain ⟨j, u1, rfl, hj, rfl, rfl, hG, hK, hgr⟩ := hrel
              have HG := Lib.hid hG
              have KK := Lib.hid hK
              have HGR := Lib.hid hgr
              have x0 := hK.wk
              have x1 := hK.r
              have x2 := hK.b
              have x3 := hK.k
              have x4 := hK.l
              clear hG hK hgr HG2 KK2 HGR2
              obtain ⟨b, o, hA, hbB, u, hu, A1_, c1_, hu2, hou⟩ := rk_at H.out HOS.out
              subst hA hu2
              replace hu := (KK.out.bel.cell (p := ⟨b, o + k, none⟩) hbB).trans hu
              by_cases hjl : j < os.length
              · have hj0 : (j : Int) < (os.length : Int) := by omega
                obtain ⟨p, hp⟩ : ∃ p, os[j]? = some p := ⟨_, List.getElem?_eq_getElem hjl⟩
                obtain ⟨b1, o1, hA1, hb1, hc1⟩ := ro_at hou hp
                subst hA1
                have q0 := (KK.out.bel.cell (p := ⟨b1, _, none⟩) hb1).trans hc1.id
                have q1 := (KK.out.bel.cell (p := ⟨b1, _, none⟩) hb1).trans hc1.into
                have q2 := (KK.out.bel.cell (p := ⟨b1, _, none⟩) hb1).trans hc1.pv
                have q3 := (KK.out.bel.cell (p := ⟨b1, _, none⟩) hb1).trans hc1.k0
                have q4 := (KK.out.bel.cell (p := ⟨b1, _, none⟩) hb1).trans hc1.k1
                have q5 := (KK.out.bel.cell (p := ⟨b1, _, none⟩) hb1).trans hc1.s0
                have q6 := (KK.out.bel.cell (p := ⟨b1, _, none⟩) hb1).trans hc1.s1
                have hps := hc1.ps
                have hpl := allP_get HOS.out hp
                have hnl := pre_lt HOS.out hjl
                have HPL := Lib.hid hpl
                have HS1 := Lib.hid (flowTo_succ s hpl)
                clear hp hc1
                obtain ⟨n, hn⟩ : ∃ n, pre ws k + j = n := ⟨_, rfl⟩
                have HN := Lib.hid hn
                rw [hn] at hpl hnl HPL HG HS1 ⊢
                obtain ⟨bd, lk, ls, cp, hbd, hlk, hls, hcp, hbl, cp0, cp1, lk0, lk1, ls0, ls1, hcap, hlos⟩ := HO.out.at_ HW.out hpl
                have hfb := (FB.flow HO.out HW.out n (by omega))
                have ht0 := hfb.t k
                have hl0 := hfb.l0
                have hl1 := hfb.l1
                have hthl := thr_len ws s n (by omega)
                have h60 := HW.out.tot
                have hl1' : (flowTo ws s n).lost ≤ 100000000 := by rw [hthl] at hl1; omega
                obtain ⟨F, hF⟩ : ∃ F, flowTo ws s n = F := ⟨_, rfl⟩
                have HF := Lib.hid hF
                rw [hF] at ht0 hl0 hl1' hthl HG HS1 ⊢
                obtain ⟨T, hT⟩ : ∃ T, F.t k = T := ⟨_, rfl⟩
                have HTT := Lib.hid hT
                rw [hT] at ht0 ⊢
                clear hF hT hl1 hfb hn hpl
                obtain ⟨br, or, rfl, hbr, y1⟩ := HS.out.parts.2.1.int hbd
                obtain ⟨bk, ok, rfl, hbk, y2⟩ := HS.out.parts.2.2.1.int hlk
                obtain ⟨bl, ol, rfl, hbll, y3⟩ := HS.out.parts.2.2.2.int hls
                have hn1 : (n : Int) < (s.boards.length : Int) := by have := HO.out.b; omega
                have hn2 : (n : Int) < (s.leaks.length : Int) := by have := HO.out.k; omega
                have hn3 : (n : Int) < (s.losses.length : Int) := by have := HO.out.l; omega
                have hjm : (j : Int) ≤ 60 := by have := HN.out; omega
                have hnm : (n : Int) ≤ 60 := by omega
                have hbl0 : (bd : Int) < (p.ps.length : Int) := by have h : bd < p.ps.length := hbl; omega
                have hpp : ∃ bp op, p.pa = some ⟨bp, op, none⟩ ∧ bp < w.heap.size ∧ w.cell? ⟨bp, op + bd, none⟩ = some (.int .i64 cp) := by
                  obtain ⟨A', c', e, -, hc⟩ := hps
                  simp only [Value.slice.injEq] at e
                  obtain ⟨bp, op, e1, e2, e3⟩ := hc (by omega)
                  exact ⟨bp, op, e.1.trans e1, e2, e3 bd cp hcp⟩
                obtain ⟨bp, op, hpa, hbp, y4⟩ := hpp
                have HPA := Lib.hid hpa
                have HY := Lib.hid (fun W (hb : Below w.heap.size w W) => And.intro ((hb.cell (p := ⟨br, or + n, none⟩) hbr).trans y1) (And.intro ((hb.cell (p := ⟨bk, ok + n, none⟩) hbk).trans y2) (And.intro ((hb.cell (p := ⟨bl, ol + n, none⟩) hbll).trans y3) ((hb.cell (p := ⟨bp, op + bd, none⟩) hbp).trans y4))))
                clear hps hpa hbp hbd hlk hls hcp hbr hbk hbll hou
                go_upto_region 20 with fail
                obtain ⟨WA, hWA⟩ : ∃ WA, wr.alloc (.cells #[.int .i64 p.id, .int .i64 p.into, .slice p.pa p.ps.length p.pc, .int .i64 p.k0, .int .i64 p.k1, .int .i64 p.s0, .int .i64 p.s1] 42) = WA := ⟨_, rfl⟩
                have bA : Below wr.heap.size wr WA := by rw [← hWA]; exact (Below.refl _ _).alloc (Nat.le_refl _) _
                have a2 : WA.cell? ⟨wr.heap.size, 2, none⟩ = some (.slice (some ⟨bp, op, none⟩) p.ps.length p.pc) := by rw [← hWA, ← HPA.out]; simp [go_sem]
                rw [hWA]
                replace HG := Lib.hid (HG.out.below bA)
                replace KK := Lib.hid (KK.out.below bA)
                have HWR : Hid (w.heap.size + 4 ≤ wr.heap.size) := Lib.hid (Nat.le_trans HSZ.out HGR.out.size)
                replace HGR : Hid (GrownL [w.heap.size + 1 + 1 + 1] w1 WA) := Lib.hid (HGR.out.trans (GrownL.of_below bA))
                clear x0 x1 x2 x3 x4 q0 q1 q2 q3 q4 q5 q6 y1 y2 y3 y4 hu hWA bA
                obtain ⟨z1, z2, z3, z4⟩ := HY.out _ KK.out.bel
                have x0 := KK.out.wk
                have x1 := KK.out.r
                have x2 := KK.out.b
                have x3 := KK.out.k
                have x4 := KK.out.l
                obtain ⟨L, hL⟩ : ∃ L, min T ls = L := ⟨_, rfl⟩
                have HLL := Lib.hid hL
                go_cut [14] (fun x wx => x = .int .i64 L ∧ wx = WA)
                case first =>
                  by_cases h : T ≤ ls
                  · obtain rfl : L = T := by omega
                    go_wp2_with fail
                    go_meet
                    case rel => exact ⟨rfl, rfl⟩
                  · obtain rfl : L = ls := by omega
                    go_wp2_with fail
                    go_meet
                    case rel => exact ⟨rfl, rfl⟩
                case rest =>
                  obtain ⟨rfl, hwx⟩ := hcut
                  rw [hwx]
                  clear hwx
                  have hL0 : 0 ≤ L := by omega
                  have hL1 : L ≤ 1048576 := by omega
                  have hL2 : L ≤ T := by omega
                  have y2 := HG.out.n
                  have y2f := HG.out.gl.f 2
                  clear hL
                  have w1' : IntKind.i64.wrap (T - L) = T - L := IntWalk.i64_in _ (by omega)
                  have w2' : IntKind.i64.wrap (F.lost + L) = F.lost + L := IntWalk.i64_in _ (by omega)
                  go_upto_region 23 with fail
                  obtain ⟨X, hX⟩ : ∃ X, WA.setCell ⟨w.heap.size + 1 + 1 + 1, 2, none⟩ (.int .i64 (F.lost + L)) = X := ⟨_, rfl⟩
                  have gX : GrownL [w.heap.size + 1 + 1 + 1] WA X := by rw [← hX]; exact GrownL.set _ _ _ (by simp)
                  replace HG : Hid (FlO (w.heap.size + 1 + 1 + 1) w1.heap.size u1 u2 F.thr (tailsTo ws s k) (F.lost + L) X) := Lib.hid (by rw [← hX]; exact HG.out.setn _)
                  replace KK := Lib.hid (KK.out.grown gX (by simp))
                  have a2' := gX.cell a2 (by have := HWR.out; simp; omega)
                  rw [hX]
                  clear a2 x0 x1 x2 x3 x4 y2 y2f z1 z2 z3 z4 hX
                  have x1 := KK.out.r
                  have x2 := KK.out.b
                  have x3 := KK.out.k
                  obtain ⟨z1, z2, z3, z4⟩ := HY.out _ KK.out.bel
                  replace HGR : Hid (GrownL [w.heap.size + 1 + 1 + 1] w1 X) := Lib.hid (HGR.out.trans gX)
                  obtain ⟨M, hM⟩ : ∃ M, min (T - L) (cp + lk) = M := ⟨_, rfl⟩
                  have HMM := Lib.hid hM
                  have w3' : IntKind.i64.wrap (cp + lk) = cp + lk := IntWalk.i64_in _ (by omega)
                  clear gX
                  go_cut [15] (fun x wx => x = .int .i64 M ∧ ∃ nq, wx = X.drewN nq)
                  case first =>
                    by_cases h : T - L ≤ cp + lk
                    · obtain rfl : M = T - L := by omega
                      go_quiet (fail)
                      go_wp2_with fail
                      go_meet
                      case rel => exact ⟨rfl, _, rfl⟩
                    · obtain rfl : M = cp + lk := by omega
                      go_quiet (fail)
                      go_wp2_with fail
                      go_meet
                      case rel => exact ⟨rfl, _, rfl⟩
                  case rest =>
                    obtain ⟨rfl, nq, hwx⟩ := hcut
                    rw [hwx]
                    clear hwx
                    obtain ⟨Y, hY⟩ : ∃ Y, X.drewN nq = Y := ⟨_, rfl⟩
                    have bY : Below X.heap.size X Y := by rw [← hY]; exact below_drewN (Below.refl _ _) _
                    replace HG := Lib.hid (HG.out.below bY)
                    replace KK := Lib.hid (KK.out.below bY)
                    replace HGR : Hid (GrownL [w.heap.size + 1 + 1 + 1] w1 Y) := Lib.hid (HGR.out.trans (GrownL.of_below bY))
                    have hM0 : 0 ≤ M := by omega
                    have hM1 : M ≤ T - L := by omega
                    have w4' : IntKind.i64.wrap (T - L - M) = T - L - M := IntWalk.i64_in _ (by omega)
                    rw [hY]
                    obtain ⟨U1, d1, rfl, -⟩ := HG.out.o1.form
                    have y0 := HG.out.c1
                    have y0f := HG.out.gl.f 0
                    rw [hthl] at HG y0
                    have R1 : Hid (Y.ownsRow w1.heap.size 3 1 (.slice U1 n d1) n (F.thr.flatMap encI)) := Lib.hid (by have := HG.out.o1; unfold OwnG at this; rwa [hthl] at this)
                    clear hM hY bY x1 x2 x3 z1 z2 z3 z4 a2'
                    go_wp2_with (at_builtin; refine wpList_append_own_at _ rfl _ _ 25 rfl w1.heap.size 3 i0 (.int .i64 0) 1 8 Try.underlying25 hz0 hi1 hi2 hi3 rfl (by decide) _ n _ rfl (R1.out.alloc _) ⟨Y.heap.size, 0, none⟩ 1 1 [.int .i64 M] rfl rfl (fun i u hi => one_news Y (.int .i64 M) 3 i u hi) (fun u hu => one_one M u hu) ?c3 ?c4 ?c5 ?_)
                    case c3 => unfold maxLen; omega
                    case c4 => omega
                    case c5 => have := HGR.out.size; first | (simp <;> omega) | omega
                    intro v4 w4 hown4 hgrow4 _ hat4
                    have O4 : Hid (OwnG encI 1 3 w1.heap.size v4 (F.thr ++ [M]) w4) := Lib.hid (own_snoc hown4 hthl)
                    obtain ⟨A4_, c4_, rfl, -⟩ := O4.out.form
                    obtain ⟨n4, hn4⟩ : ∃ n, (F.thr ++ [M]).length = n := ⟨_, rfl⟩
                    rw [hn4] at O4 hat4 ⊢
                    have gr : GrownL (Value.slice U1 n d1).ownBlock.toList Y w4 := (GrownL.of_below ((Below.refl Y.heap.size Y).alloc (Nat.le_refl _) (.cells #[.int .i64 M] 3))).trans (GrownL.of_row hgrow4)
                    have hlt := fun b (hb : b ∈ (Value.slice U1 n d1).ownBlock.toList) => (HG.out.o1.lt b (by simpa using hb))
                    have hn3_ : w.heap.size + 1 + 1 + 1 ∉ (Value.slice U1 n d1).ownBlock.toList := fun hm => by have := (hlt _ hm).1; have := HSZ.out; omega
                    have y0' := gr.cell y0 hn3_
                    have y0f' := (World.frozen?_of_block (a := ⟨w.heap.size + 1 + 1 + 1, 0, none⟩) (gr.block _ HG.out.gl.gl hn3_)).trans y0f
                    obtain ⟨Z, hZ⟩ : ∃ Z, w4.setCell ⟨w.heap.size + 1 + 1 + 1, 0, none⟩ (.slice A4_ n4 c4_) = Z := ⟨_, rfl⟩
                    have gs : GrownL [w.heap.size + 1 + 1 + 1] w4 Z := by rw [← hZ]; exact GrownL.set _ _ _ (by simp)
                    have HG2 := Lib.hid (HG.out.app1 gr O4.out (hat4.imp (fun h => h) (fun h => ⟨_, h, by simp⟩)))
                    rw [hZ] at HG2
                    have KK2 := Lib.hid ((KK.out.grown gr (fun b hb => by have := (hlt b hb).1; have := HSZ.out; omega)).grown gs (by simp))
                    have HGR2 : Hid (GrownL [w.heap.size + 1 + 1 + 1] w1 Z) := Lib.hid (HGR.out.newer ((gr.mono (bs' := (w.heap.size + 1 + 1 + 1) :: (Value.slice U1 n d1).ownBlock.toList) (by simp +contextual)).trans (gs.mono (by simp))) (fun b hb => (hlt b hb).1))
                    have HZ := Lib.hid hZ
                    clear hn4 gr hlt hn3_ gs hown4 hgrow4 hat4 y0 y0f hZ HG KK HGR
                    go_wp2_with fail
                    rw [HZ.out]
                    have e1 : lostS s F ⟨n, k, j, p⟩ = L := by rw [← HLL.out, ← HTT.out]; unfold lostS; rw [hlos]
                    have e2 : thrS s F ⟨n, k, j, p⟩ = M := by rw [← HMM.out, ← HTT.out]; unfold thrS; rw [e1, hcap]
                    have e3 := t_step HW.out s HPL.out
                    rw [HF.out, e1, e2] at e3
                    have E3 : Hid ((flowTo ws s (n + 1)).t k = T - L - M) := Lib.hid (by rw [← HTT.out]; exact e3)
                    have E1 : Hid ((flowTo ws s (n + 1)).thr = F.thr ++ [M] ∧ (flowTo ws s (n + 1)).lost = F.lost + L) := Lib.hid (by
                      rw [HS1.out]
                      exact ⟨by show F.thr ++ [thrS s F ⟨n, k, j, p⟩] = _; rw [e2], by show F.lost + lostS s F ⟨n, k, j, p⟩ = _; rw [e1]⟩)
                    clear e1 e2 e3
                    go_roundw
                    case rel => exact ⟨j + 1, _, by go_num, by omega, by rw [← Nat.add_assoc, HN.out]; go_num, by rw [← Nat.add_assoc, HN.out, E3.out], by rw [← Nat.add_assoc, HN.out, E1.out.1, E1.out.2]; exact HG2.out, KK2.out, HGR2.out⟩
                    case measure => show os.length - ((j : Int) + 1).toNat < os.length - (j : Int).toNat; omega
              · have hj0 : (os.length : Int) ≤ (j : Int) := by omega
                obtain rfl : j = os.length := by omega
                have hps := pre_succ HOS.out
                rw [← hps] at HG ⊢
                have HTE : Hid ((flowTo ws s (pre ws (k + 1))).t k = (flowF ws s).t k) := Lib.hid (t_end HW.out s k).symm
                have hfb := ((FB.flow HO.out HW.out (pre ws (k + 1)) (pre_le ws _))).t k
                have HLT : Hid ((tailsTo ws s k).length = k) := Lib.hid (by unfold tailsTo; rw [List.length_map, List.length_range])
                have HTL := Lib.hid (tailsTo_succ ws s k)
                obtain ⟨T, hT⟩ : ∃ T, (flowTo ws s (pre ws (k + 1))).t k = T := ⟨_, rfl⟩
                rw [hT] at hfb ⊢
                have HTT : Hid ((flowF ws s).t k = T) := Lib.hid (HTE.out.symm.trans hT)
                obtain ⟨U2, d2, rfl, -⟩ := HG.out.o2.form
                have y0 := HG.out.c2
                have y0f := HG.out.gl.f 1
                have hbase := HGR.out.size
                rw [HLT.out] at HG y0
                have R1 : Hid (wr.ownsRow w1.heap.size 3 1 (.slice U2 k d2) k ((tailsTo ws s k).flatMap encI)) := Lib.hid (by have := HG.out.o2; unfold OwnG at this; rwa [HLT.out] at this)
                clear hou hps hT hjl
                go_wp2_with (at_builtin; refine wpList_append_own_at _ rfl _ _ 25 rfl w1.heap.size 3 i0 (.int .i64 0) 1 8 Try.underlying25 hz0 hi1 hi2 hi3 rfl (by decide) _ k _ rfl (R1.out.alloc _) ⟨wr.heap.size, 0, none⟩ 1 1 [.int .i64 T] rfl rfl (fun i u hi => one_news wr (.int .i64 T) 3 i u hi) (fun u hu => one_one T u hu) ?c3 ?c4 ?c5 ?_)
                case c3 => unfold maxLen; omega
                case c4 => omega
                case c5 => have := HGR.out.size; first | (simp <;> omega) | omega
                intro v4 w4 hown4 hgrow4 _ hat4
                have O4 : Hid (OwnG encI 1 3 w1.heap.size v4 (tailsTo ws s k ++ [T]) w4) := Lib.hid (own_snoc hown4 HLT.out)
                obtain ⟨A4_, c4_, rfl, -⟩ := O4.out.form
                obtain ⟨n4, hn4⟩ : ∃ n, (tailsTo ws s k ++ [T]).length = n := ⟨_, rfl⟩
                rw [hn4] at O4 hat4 ⊢
                have gr : GrownL (Value.slice U2 k d2).ownBlock.toList wr w4 := (GrownL.of_below ((Below.refl wr.heap.size wr).alloc (Nat.le_refl _) (.cells #[.int .i64 T] 3))).trans (GrownL.of_row hgrow4)
                have hlt := fun b (hb : b ∈ (Value.slice U2 k d2).ownBlock.toList) => (HG.out.o2.lt b (by simpa using hb))
                have hn3_ : w.heap.size + 1 + 1 + 1 ∉ (Value.slice U2 k d2).ownBlock.toList := fun hm => by have := (hlt _ hm).1; have := HSZ.out; omega
                have y0' := gr.cell y0 hn3_
                have y0f' := (World.frozen?_of_block (a := ⟨w.heap.size + 1 + 1 + 1, 1, none⟩) (gr.block _ HG.out.gl.gl hn3_)).trans y0f
                obtain ⟨Z, hZ⟩ : ∃ Z, w4.setCell ⟨w.heap.size + 1 + 1 + 1, 1, none⟩ (.slice A4_ n4 c4_) = Z := ⟨_, rfl⟩
                have gs : GrownL [w.heap.size + 1 + 1 + 1] w4 Z := by rw [← hZ]; exact GrownL.set _ _ _ (by simp)
                have HG2 := Lib.hid (HG.out.app2 gr O4.out (hat4.imp (fun h => h) (fun h => ⟨_, h, by simp⟩)))
                rw [hZ] at HG2
                have KK2 := Lib.hid ((KK.out.grown gr (fun b hb => by have := (hlt b hb).1; have := HSZ.out; omega)).grown gs (by simp))
                have HGR2 : Hid (GrownL [w.heap.size + 1 + 1 + 1] w1 Z) := Lib.hid (HGR.out.newer ((gr.mono (bs' := (w.heap.size + 1 + 1 + 1) :: (Value.slice U2 k d2).ownBlock.toList) (by simp +contextual)).trans (gs.mono (by simp))) (fun b hb => (hlt b hb).1))
                have HZ := Lib.hid hZ
                clear hn4 gr hlt hn3_ gs hown4 hgrow4 hat4 y0 y0f hZ HG KK HGR
                go_wp2_with fail
                rw [HZ.out]
                go_roundw
                case rel => exact ⟨k + 1, _, _, by go_num, by omega, rfl, by rw [HTL.out, HTT.out]; exact HG2.out, KK2.out, HGR2.out⟩
                case measure => show ws.length - ((k : Int) + 1).toNat < ws.length - (k : Int).toNat; omega
    · have hk0 : (ws.length : Int) ≤ (k : Int) := by omega
      obtain rfl : k = ws.length := by omega
      rw [show pre ws ws.length = total ws from rfl] at HG
      obtain ⟨U1, d1, rfl, -⟩ := HG.out.o1.form
      obtain ⟨U2, d2, rfl, -⟩ := HG.out.o2.form
      obtain ⟨n1, hn1⟩ : ∃ n, (flowTo ws s (total ws)).thr.length = n := ⟨_, rfl⟩
      obtain ⟨n2, hn2⟩ : ∃ n, (tailsTo ws s ws.length).length = n := ⟨_, rfl⟩
      obtain ⟨L, hL⟩ : ∃ L, (flowTo ws s (total ws)).lost = L := ⟨_, rfl⟩
      rw [hn1, hn2, hL] at HG
      have HL := Lib.hid hL
      have x1 := HG.out.c1
      have x2 := HG.out.c2
      have x3 := HG.out.n
      have r0 := KK.out.z0
      have r1 := KK.out.z1
      have r2 := KK.out.z2
      have z0 := KK.out.fz 0
      have z1 := KK.out.fz 1
      have z2 := KK.out.fz 2
      clear hn1 hn2 hL
      go_wp2_with fail
      obtain ⟨X, hX⟩ : ∃ X, ((wr.setCell ⟨w.heap.size + 1 + 1, 0, none⟩ (.slice U1 n1 d1)).setCell ⟨w.heap.size + 1 + 1, 1, none⟩ (.slice U2 n2 d2)).setCell ⟨w.heap.size + 1 + 1, 2, none⟩ (.int .i64 L) = X := ⟨_, rfl⟩
      obtain ⟨p0, p1, p2, gx⟩ := set3 r0 r1 r2 (.slice U1 n1 d1) (.slice U2 n2 d2) (.int .i64 L)
      rw [hX] at p0 p1 p2 gx ⊢
      clear hX
      refine bodyPost_ret (v := .agg #[.slice U1 n1 d1, .slice U2 n2 d2, .int .i64 L]) (by simp [results, Try.results118, go_sem, p0, p1, p2]) rfl ?_
      have hs1 := HGR.out.size
      have hs0 := HSZ.out
      have ow : ∀ u l, OwnG encI 1 3 w1.heap.size u l wr → OwnG encI 1 3 w.heap.size u l X := fun u l h => (h.grown gx (fun b hb hm => by have := (h.lt b hb).1; simp at hm; omega)).low (by omega)
      exact ⟨_, _, by rw [← HL.out]; rfl, ow _ _ HG.out.o1, ow _ _ HG.out.o2, KK.out.bel.trans (gx.below (fun b hb => by simp at hb; omega) KK.out.bel.size)⟩
end Go.Proofs.Ytkoacclbempmdaa

/- Contract of the specification's water. -/
namespace Go.Proofs.Ytkoacclbempmdaa
open Go.RowKit

set_option maxHeartbeats 800000 in
theorem within_same (n lo hi : Int) (w : World) : Calls Try.prog 129 #[.int .i64 n, .int .i64 lo, .int .i64 hi] w fun e w' => e = .returned (.bool (inB lo hi n)) ∧ w = w' := by
  have HV : Hid (∀ x, x = (inB lo hi n) → Ending.returned (.bool x) = .returned (.bool (inB lo hi n))) := Lib.hid fun x h => by rw [h]
  have hc : (lo ≤ n) ∨ (n < lo) := by omega
  generalize hb : (inB lo hi n) = r at HV ⊢
  have HB := Lib.hid hb
  clear hb
  rcases hc with h0 | h0
  all_goals
    go_enter Try.func129, Try.ntmps129
    go_wp2_with fail
    go_ret
    refine ⟨HV.out _ ?_, ?_⟩
    · rw [← HB.out, Bool.eq_iff_iff]
      simp [inB]
      try omega
    · rfl
theorem rl_in {base : Nat} {v u : Value} {ws : Wk} {B : Nat} {w W : World} (h : OwnG encO 7 42 base v (outs ws) W) (hk : RK B u ws w) (hb : Below B w W) (hB : B ≤ W.heap.size) (ht : total ws ≤ 100000) : RO W.heap.size v (outs ws) W := by
  refine RO.of_rr (h.rr EO (by rw [outs_len]; show total ws ≤ 1000000000000000; omega)) (fun x hx => (outs_ps hk x hx).up hB hb)

set_option maxHeartbeats 16000000 in
set_option maxRecDepth 1000000 in
theorem rwater_any (A : Option Addr) (c : Nat) (wv : Value) (ws : Wk) (s : Wa) (d : Int) (w : World) (h : RK w.heap.size (.slice A ws.length c) ws w) (hs : RWa w.heap.size wv s w) (hw : WOk ws) (hd : (WaOk ws s ∧ d = 0) ∨ (¬ WaOk ws s ∧ d = 1)) :
    Calls Try.prog 119 #[.agg #[.slice A ws.length c], wv] w fun e w' => e = .returned (.int .i64 d) ∧ Below w.heap.size w w' := by
  obtain ⟨A1, c1, A2, c2, A3, c3, A4, c4, rfl⟩ := hs.form
  have H := Lib.hid h
  have HS := Lib.hid hs
  have HW := Lib.hid hw
  rw [waOk_iff] at hd
  have HBB := Lib.hid hd
  have ht : total ws ≤ 100000 := by have := hw.tot; omega
  have hln : ws.length ≤ 100000 := by have := hw.len; omega
  have C1 := Lib.hid fun W (hb : Below w.heap.size w W) => routlets_any A ws.length c ws W (h.up hb.size hb) ht
  have C2 := Lib.hid fun W (hb : Below w.heap.size w W) => rheads_any A ws.length c ws W (h.up hb.size hb) ht hln
  have S0 := Lib.hid (WW.new w (.slice A ws.length c) (.slice A1 s.river.length c1) (.slice A2 s.boards.length c2) (.slice A3 s.leaks.length c3) (.slice A4 s.losses.length c4))
  clear h hs hw hd
  go_enter Try.func119, Try.ntmps119
  go_wp2_with fail
  refine (C1.out _ S0.out.bel).mono ?_
  rintro e w2 ⟨lv, rfl, hlv, b1⟩
  have S2 := Lib.hid (S0.out.below b1)
  have RL := Lib.hid (rl_in hlv (H.out.up S0.out.bel.size S0.out.bel) b1 b1.size ht)
  obtain ⟨Al, cl, rfl, -⟩ := hlv.form
  have hol := outs_len ws
  rw [hol] at RL ⊢
  clear hlv b1 ht hln
  have x0 := S2.out.wk
  have x1 := S2.out.r
  have x2 := S2.out.b
  have x3 := S2.out.k
  have x4 := S2.out.l
  obtain ⟨nh, hnh⟩ : ∃ nh, (headsL ws).length = nh := ⟨_, rfl⟩
  obtain ⟨nt, hnt⟩ : ∃ nt, total ws = nt := ⟨_, rfl⟩
  have HNH := Lib.hid hnh
  have HNT := Lib.hid hnt
  have HCH : Hid (∀ W, BelS w2 W → Calls Try.prog 103 #[.agg #[.slice A ws.length c]] W fun e w' => ∃ A' c', e = .returned (.slice A' nh c') ∧ Below W.heap.size W w') := Lib.hid fun W hb => (C2.out W (S2.out.bel.trans (hb.b.mono S2.out.bel.size))).mono fun e w' ⟨v, he, ho, hb'⟩ => by
    obtain ⟨A', c', hv, -⟩ := ho.form
    exact ⟨A', c', by rw [he, hv, hnh], hb'⟩
  rw [hnt] at RL ⊢
  clear hnh hnt hol C1 C2
  go_upto_region 2 with fail
  refine wp_region_held_drew (S := BelS w2) (by kernel_rfl) (BelS.drew0 _) (fun J0 => ?_)
  refine tw 0 14 J0 ?_ (hy := by intro w' hSw; have q1 := hSw.c x1; have q2 := hSw.c x2; have q3 := hSw.c x3; have q4 := hSw.c x4; have q0 := hSw.c x0; go_simp; try with_reducible rfl)
  try simp only [aS]
  refine tw 1 15 J0 ?_ (hy := by intro w' hSw; have q1 := hSw.c x1; have q2 := hSw.c x2; have q3 := hSw.c x3; have q4 := hSw.c x4; have q0 := hSw.c x0; go_simp; try with_reducible rfl)
  try simp only [aS]
  refine tw 2 16 J0 ?_ (hy := by intro w' hSw; have q1 := hSw.c x1; have q2 := hSw.c x2; have q3 := hSw.c x3; have q4 := hSw.c x4; have q0 := hSw.c x0; go_simp; try with_reducible rfl)
  try simp only [aS]
  refine tw 3 17 J0 ?_ (hy := by intro w' hSw; have q1 := hSw.c x1; have q2 := hSw.c x2; have q3 := hSw.c x3; have q4 := hSw.c x4; have q0 := hSw.c x0; go_simp; try with_reducible rfl)
  try simp only [aS]
  refine wpAnyH_ready (rs := [4]) (by kernel_rfl) (by simp) ?_
  refine AllReadyH.cons rfl (fun K hK => ?_) AllReadyH.nil
  go_simp
  refine (HCH.out _ J0).mono ?_
  rintro e wq1 ⟨Ah, ch, rfl, hq1⟩
  have J1 := J0.below hq1
  clear hq1
  refine hK.out _ _ J1 (fun _ => ?_)
  clear hK K
  try simp only [aS]
  refine tw 5 19 J1 ?_ (hy := by intro w' hSw; have q1 := hSw.c x1; have q2 := hSw.c x2; have q3 := hSw.c x3; have q4 := hSw.c x4; have q0 := hSw.c x0; go_simp; try with_reducible rfl)
  try simp only [aS]
  by_cases h0 : s.river.length = nh
  · have h0b : ((s.river.length : Int) != (nh : Int)) = false := (neqB _ _).2.2 h0
    refine tw 6 20 J1 ?_ (hy := by intro w' hSw; have q1 := hSw.c x1; have q2 := hSw.c x2; have q3 := hSw.c x3; have q4 := hSw.c x4; have q0 := hSw.c x0; go_simp; try with_reducible rfl)
    try simp only [aS]
    refine tw 7 21 J1 ?_ (hy := by intro w' hSw; have q1 := hSw.c x1; have q2 := hSw.c x2; have q3 := hSw.c x3; have q4 := hSw.c x4; have q0 := hSw.c x0; go_simp; try with_reducible rfl)
    try simp only [aS]
    refine tw 8 22 J1 ?_ (hy := by intro w' hSw; have q1 := hSw.c x1; have q2 := hSw.c x2; have q3 := hSw.c x3; have q4 := hSw.c x4; have q0 := hSw.c x0; go_simp; try with_reducible rfl)
    try simp only [aS]
    refine tw 9 23 J1 ?_ (hy := by intro w' hSw; have q1 := hSw.c x1; have q2 := hSw.c x2; have q3 := hSw.c x3; have q4 := hSw.c x4; have q0 := hSw.c x0; go_simp; try with_reducible rfl)
    try simp only [aS]
    refine tw 10 24 J1 ?_ (hy := by intro w' hSw; have q1 := hSw.c x1; have q2 := hSw.c x2; have q3 := hSw.c x3; have q4 := hSw.c x4; have q0 := hSw.c x0; go_simp; try with_reducible rfl)
    try simp only [aS]
    refine tw 11 25 J1 ?_ (hy := by intro w' hSw; have q1 := hSw.c x1; have q2 := hSw.c x2; have q3 := hSw.c x3; have q4 := hSw.c x4; have q0 := hSw.c x0; go_simp; try with_reducible rfl)
    try simp only [aS]
    refine tw 12 26 J1 ?_ (hy := by intro w' hSw; have q1 := hSw.c x1; have q2 := hSw.c x2; have q3 := hSw.c x3; have q4 := hSw.c x4; have q0 := hSw.c x0; go_simp; try with_reducible rfl)
    try simp only [aS]
    by_cases h1 : s.boards.length = nt
    · have h1b : ((s.boards.length : Int) != (nt : Int)) = false := (neqB _ _).2.2 h1
      refine tw 13 27 J1 ?_ (hy := by intro w' hSw; have q1 := hSw.c x1; have q2 := hSw.c x2; have q3 := hSw.c x3; have q4 := hSw.c x4; have q0 := hSw.c x0; go_simp; try with_reducible rfl)
      try simp only [aS]
      refine tw 14 28 J1 ?_ (hy := by intro w' hSw; have q1 := hSw.c x1; have q2 := hSw.c x2; have q3 := hSw.c x3; have q4 := hSw.c x4; have q0 := hSw.c x0; go_simp; try with_reducible rfl)
      try simp only [aS]
      refine tw 15 29 J1 ?_ (hy := by intro w' hSw; have q1 := hSw.c x1; have q2 := hSw.c x2; have q3 := hSw.c x3; have q4 := hSw.c x4; have q0 := hSw.c x0; go_simp; try with_reducible rfl)
      try simp only [aS]
      refine tw 16 30 J1 ?_ (hy := by intro w' hSw; have q1 := hSw.c x1; have q2 := hSw.c x2; have q3 := hSw.c x3; have q4 := hSw.c x4; have q0 := hSw.c x0; go_simp; try with_reducible rfl)
      try simp only [aS]
      refine tw 17 31 J1 ?_ (hy := by intro w' hSw; have q1 := hSw.c x1; have q2 := hSw.c x2; have q3 := hSw.c x3; have q4 := hSw.c x4; have q0 := hSw.c x0; go_simp; try with_reducible rfl)
      try simp only [aS]
      refine tw 18 32 J1 ?_ (hy := by intro w' hSw; have q1 := hSw.c x1; have q2 := hSw.c x2; have q3 := hSw.c x3; have q4 := hSw.c x4; have q0 := hSw.c x0; go_simp; try with_reducible rfl)
      try simp only [aS]
      refine tw 19 33 J1 ?_ (hy := by intro w' hSw; have q1 := hSw.c x1; have q2 := hSw.c x2; have q3 := hSw.c x3; have q4 := hSw.c x4; have q0 := hSw.c x0; go_simp; try with_reducible rfl)
      try simp only [aS]
      refine tw 20 34 J1 ?_ (hy := by intro w' hSw; have q1 := hSw.c x1; have q2 := hSw.c x2; have q3 := hSw.c x3; have q4 := hSw.c x4; have q0 := hSw.c x0; go_simp; try with_reducible rfl)
      try simp only [aS]
      by_cases h2 : s.leaks.length = nt
      · have h2b : ((s.leaks.length : Int) != (nt : Int)) = false := (neqB _ _).2.2 h2
        refine tw 21 35 J1 ?_ (hy := by intro w' hSw; have q1 := hSw.c x1; have q2 := hSw.c x2; have q3 := hSw.c x3; have q4 := hSw.c x4; have q0 := hSw.c x0; go_simp; try with_reducible rfl)
        try simp only [aS]
        refine tw 22 36 J1 ?_ (hy := by intro w' hSw; have q1 := hSw.c x1; have q2 := hSw.c x2; have q3 := hSw.c x3; have q4 := hSw.c x4; have q0 := hSw.c x0; go_simp; try with_reducible rfl)
        try simp only [aS]
        refine tw 23 37 J1 ?_ (hy := by intro w' hSw; have q1 := hSw.c x1; have q2 := hSw.c x2; have q3 := hSw.c x3; have q4 := hSw.c x4; have q0 := hSw.c x0; go_simp; try with_reducible rfl)
        try simp only [aS]
        refine tw 24 38 J1 ?_ (hy := by intro w' hSw; have q1 := hSw.c x1; have q2 := hSw.c x2; have q3 := hSw.c x3; have q4 := hSw.c x4; have q0 := hSw.c x0; go_simp; try with_reducible rfl)
        try simp only [aS]
        refine tw 25 39 J1 ?_ (hy := by intro w' hSw; have q1 := hSw.c x1; have q2 := hSw.c x2; have q3 := hSw.c x3; have q4 := hSw.c x4; have q0 := hSw.c x0; go_simp; try with_reducible rfl)
        try simp only [aS]
        refine tw 26 40 J1 ?_ (hy := by intro w' hSw; have q1 := hSw.c x1; have q2 := hSw.c x2; have q3 := hSw.c x3; have q4 := hSw.c x4; have q0 := hSw.c x0; go_simp; try with_reducible rfl)
        try simp only [aS]
        refine tw 27 41 J1 ?_ (hy := by intro w' hSw; have q1 := hSw.c x1; have q2 := hSw.c x2; have q3 := hSw.c x3; have q4 := hSw.c x4; have q0 := hSw.c x0; go_simp; try with_reducible rfl)
        try simp only [aS]
        refine tw 28 42 J1 ?_ (hy := by intro w' hSw; have q1 := hSw.c x1; have q2 := hSw.c x2; have q3 := hSw.c x3; have q4 := hSw.c x4; have q0 := hSw.c x0; go_simp; try with_reducible rfl)
        try simp only [aS]
        by_cases h3 : s.losses.length = nt
        · have h3b : ((s.losses.length : Int) != (nt : Int)) = false := (neqB _ _).2.2 h3
          refine tw 29 43 J1 ?_ (hy := by intro w' hSw; have q1 := hSw.c x1; have q2 := hSw.c x2; have q3 := hSw.c x3; have q4 := hSw.c x4; have q0 := hSw.c x0; go_simp; try with_reducible rfl)
          try simp only [aS]
          refine tw 30 44 J1 ?_ (hy := by intro w' hSw; have q1 := hSw.c x1; have q2 := hSw.c x2; have q3 := hSw.c x3; have q4 := hSw.c x4; have q0 := hSw.c x0; go_simp; try with_reducible rfl)
          try simp only [aS]
          refine wpAnyH_done (by kernel_rfl) ?_ _
          have S3 := Lib.hid (S2.out.below (BelS.b J1))
          have RL := Lib.hid (RL.out.up (BelS.b J1).size (BelS.b J1))
          obtain ⟨w3, hw3⟩ : ∃ w3, wq1 = w3 := ⟨_, rfl⟩
          rw [hw3] at S3 RL ⊢
          clear hw3 x0 x1 x2 x3 x4 J0 J1
          have HBB2 : Hid ((((∀ x ∈ s.river, inB 0 1048576 x = true) ∧ ∀ p ∈ allP ws, okW s p = true) ∧ d = 0) ∨ (¬ ((∀ x ∈ s.river, inB 0 1048576 x = true) ∧ ∀ p ∈ allP ws, okW s p = true) ∧ d = 1)) := Lib.hid (by have := HBB.out; rw [HNH.out, HNT.out] at this; exact this.imp (fun h => ⟨⟨h.1.2.2.2.2.1, h.1.2.2.2.2.2⟩, h.2⟩) (fun h => ⟨fun hx => h.1 ⟨h0, h1, h2, h3, hx.1, hx.2⟩, h.2⟩))
          have HLN := Lib.hid (And.intro h1 (And.intro h2 h3))
          have hnr : (s.river.length : Int) ≤ 100000 := by have := HNH.out; have := headsL_len HW.out; omega
          have hntt : (nt : Int) ≤ 60 := by have := HNT.out; have := HW.out.tot; omega
          clear h0 h1 h2 h3 h0b h1b h2b h3b
          go_wp2_with fail
          go_loopw [6] (fun i wr => ∃ k : Nat, i = .int .i64 k ∧ k ≤ s.river.length ∧ (∀ j x, j < k → s.river[j]? = some x → inB 0 1048576 x = true) ∧ wr = w3) (fun i _ => s.river.length - (intOf i).toNat)
          case atStart => exact ⟨0, rfl, by omega, fun j x h => by omega, rfl⟩
          case round =>
            obtain ⟨k, rfl, hk, hok, rfl⟩ := hrel
            have HOK := Lib.hid hok
            have x1 := S3.out.r
            clear hok
            by_cases hkl : k < s.river.length
            · have hk0 : (k : Int) < (s.river.length : Int) := by omega
              obtain ⟨x, hx⟩ : ∃ x, s.river[k]? = some x := ⟨_, List.getElem?_eq_getElem hkl⟩
              obtain ⟨b, o, rfl, hb, q0⟩ := (HS.out.parts.1.up S3.out.bel.size S3.out.bel).int hx
              have HX := Lib.hid hx
              clear hx
              go_wp2_with fail
              refine (within_same x 0 1048576 _).mono ?_
              rintro e w4 ⟨rfl, rfl⟩
              by_cases hin : inB 0 1048576 x = true
              · rw [hin]
                have HIN := Lib.hid hin
                clear hin
                go_wp2_with fail
                go_roundw
                case rel => exact ⟨k + 1, by go_num, by omega, fun j y hj hy => by
                  rcases Nat.lt_or_ge j k with h | h
                  · exact HOK.out j y h hy
                  · obtain rfl : j = k := by omega
                    rw [HX.out] at hy
                    cases hy
                    exact HIN.out, trivial⟩
                case measure => show s.river.length - ((k : Int) + 1).toNat < s.river.length - (k : Int).toNat; omega
              · rw [Bool.not_eq_true] at hin
                have HF : Hid (d = 1) := Lib.hid (HBB2.out.elim (fun hx => by have := hx.1.1 x (List.mem_of_getElem? HX.out); rw [hin] at this; cases this) (·.2))
                rw [hin]
                clear hin
                go_wp2_with fail
                go_ret
                exact ⟨by rw [HF.out]; try rfl, S3.out.bel⟩
            · have hk0 : (s.river.length : Int) ≤ (k : Int) := by omega
              obtain rfl : k = s.river.length := by omega
              go_wp2_with fail
              go_loopw [8] (fun i wx => ∃ k : Nat, i = .int .i64 k ∧ k ≤ nt ∧ (∀ j p, j < k → (allP ws)[j]? = some p → okW s p = true) ∧ WW w (.slice A ws.length c) (.slice A1 s.river.length c1) (.slice A2 s.boards.length c2) (.slice A3 s.leaks.length c3) (.slice A4 s.losses.length c4) wx ∧ RO wx.heap.size (.slice Al nt cl) (outs ws) wx) (fun i _ => nt - (intOf i).toNat)
              case atStart => exact ⟨0, rfl, by omega, fun j x h => by omega, S3.out, RL.out⟩
              case round =>
                obtain ⟨k, rfl, hk', hok, hS4, hRL⟩ := hrel
                have HOK2 := Lib.hid hok
                have S4 := Lib.hid hS4
                have RL4 := Lib.hid hRL
                clear hok hS4 hRL
                have x1 := S4.out.r
                have x2 := S4.out.b
                have x3 := S4.out.k
                have x4 := S4.out.l
                by_cases hkl : k < nt
                · have hk0 : (k : Int) < (nt : Int) := by omega
                  obtain ⟨p, hp⟩ := at_total (ws := ws) (n := k) (by rw [HNT.out]; exact hkl)
                  have hpo := (outs_get hp).1
                  obtain ⟨b1, o1, hA1, hb1, hc1⟩ := ro_at RL4.out hpo
                  subst hA1
                  have p2 : wr.cell? ⟨b1, o1 + k * 7 + 2, none⟩ = some (.slice p.o.pa p.o.ps.length p.o.pc) := hc1.pv
                  have p3 := hc1.k0
                  have p4 : wr.cell? ⟨b1, o1 + k * 7 + 3 + 1, none⟩ = some (.int .i64 p.o.k1) := hc1.k1
                  have p5 := hc1.s0
                  have p6 : wr.cell? ⟨b1, o1 + k * 7 + 5 + 1, none⟩ = some (.int .i64 p.o.s1) := hc1.s1
                  have hpl := hc1.ps.fits
                  have hpl0 : (p.o.ps.length : Int) ≤ 1000000000000000 := by unfold Fits at hpl; omega
                  have hat := (allP_inv hp).1
                  obtain ⟨bd, hbd⟩ : ∃ x, s.boards[k]? = some x := ⟨_, List.getElem?_eq_getElem (by have := HLN.out.1; omega)⟩
                  obtain ⟨lk, hlk⟩ : ∃ x, s.leaks[k]? = some x := ⟨_, List.getElem?_eq_getElem (by have := HLN.out.2.1; omega)⟩
                  obtain ⟨ls, hls⟩ : ∃ x, s.losses[k]? = some x := ⟨_, List.getElem?_eq_getElem (by have := HLN.out.2.2; omega)⟩
                  obtain ⟨br, or, rfl, hbr, y1⟩ := (HS.out.parts.2.1.up S4.out.bel.size S4.out.bel).int hbd
                  obtain ⟨bk, ok, rfl, hbk, y2⟩ := (HS.out.parts.2.2.1.up S4.out.bel.size S4.out.bel).int hlk
                  obtain ⟨bl, ol, rfl, hbll, y3⟩ := (HS.out.parts.2.2.2.up S4.out.bel.size S4.out.bel).int hls
                  have hn1 : (k : Int) < (s.boards.length : Int) := by have := HLN.out.1; omega
                  have hn2 : (k : Int) < (s.leaks.length : Int) := by have := HLN.out.2.1; omega
                  have hn3 : (k : Int) < (s.losses.length : Int) := by have := HLN.out.2.2; omega
                  have HOW : Hid (okW s p = (inB 0 ((p.o.ps.length : Int) - 1) bd && (inB p.o.k0 p.o.k1 lk && inB p.o.s0 p.o.s1 ls))) := Lib.hid (by unfold okW; rw [hat, getD_of hbd, getD_of hlk, getD_of hls])
                  have HP := Lib.hid hp
                  have hwr1 : IntKind.i64.wrap ((p.o.ps.length : Int) - 1) = (p.o.ps.length : Int) - 1 := IntWalk.i64_in _ (by omega)
                  obtain ⟨n, hn⟩ : ∃ n, p.o.ps.length = n := ⟨_, rfl⟩
                  rw [hn] at p2 hpl0 hwr1 HOW
                  obtain ⟨i1, hi1⟩ : ∃ i, inB 0 ((n : Int) - 1) bd = i := ⟨_, rfl⟩
                  obtain ⟨i2, hi2⟩ : ∃ i, inB p.o.k0 p.o.k1 lk = i := ⟨_, rfl⟩
                  obtain ⟨i3, hi3⟩ : ∃ i, inB p.o.s0 p.o.s1 ls = i := ⟨_, rfl⟩
                  have C1 := Lib.hid fun W => within_same bd 0 ((n : Int) - 1) W
                  have C2 := Lib.hid fun W => within_same lk p.o.k0 p.o.k1 W
                  have C3 := Lib.hid fun W => within_same ls p.o.s0 p.o.s1 W
                  rw [hi1] at C1 HOW
                  rw [hi2] at C2 HOW
                  rw [hi3] at C3 HOW
                  clear hp hpo hc1 hbd hlk hls hat hpl hbr hbk hbll hn hi1 hi2 hi3 hb1
                  go_wp2_with fail
                  go_quiet ((go_at_call 129; exact Calls.quiet_of_same (flip_same (C1.out _))))
                  obtain ⟨Y1, hY1⟩ : ∃ Y, wr.drewN nq = Y := ⟨_, rfl⟩
                  have bY1 : Below wr.heap.size wr Y1 := by rw [← hY1]; exact below_drewN (Below.refl _ _) _
                  rw [hY1]
                  clear hY1
                  replace x3 := BelS.c bY1 x3
                  replace x4 := BelS.c bY1 x4
                  replace p3 := BelS.c bY1 p3
                  replace p4 := BelS.c bY1 p4
                  replace p5 := BelS.c bY1 p5
                  replace p6 := BelS.c bY1 p6
                  replace y2 := BelS.c bY1 y2
                  replace y3 := BelS.c bY1 y3
                  go_wp2_with fail
                  go_quiet ((go_at_call 129; exact Calls.quiet_of_same (flip_same (C2.out _))))
                  obtain ⟨Y2, hY2⟩ : ∃ Y, Y1.drewN nq = Y := ⟨_, rfl⟩
                  have bY2 : Below Y1.heap.size Y1 Y2 := by rw [← hY2]; exact below_drewN (Below.refl _ _) _
                  rw [hY2]
                  clear hY2
                  replace x4 := BelS.c bY2 x4
                  replace p5 := BelS.c bY2 p5
                  replace p6 := BelS.c bY2 p6
                  replace y3 := BelS.c bY2 y3
                  go_wp2_with fail
                  go_quiet ((go_at_call 129; exact Calls.quiet_of_same (flip_same (C3.out _))))
                  obtain ⟨Y3, hY3⟩ : ∃ Y, Y2.drewN nq = Y := ⟨_, rfl⟩
                  have bY3 : Below Y2.heap.size Y2 Y3 := by rw [← hY3]; exact below_drewN (Below.refl _ _) _
                  rw [hY3]
                  clear hY3
                  replace S4 := Lib.hid (((S4.out.below bY1).below bY2).below bY3)
                  replace RL4 := Lib.hid (((RL4.out.up bY1.size bY1).up bY2.size bY2).up bY3.size bY3)
                  clear C1 C2 C3 x1 x2 x3 x4 p2 p3 p4 p5 p6 y1 y2 y3 bY1 bY2 bY3
                  have hx : (i1 = true ∧ i2 = true ∧ i3 = true) ∨ (i1 && (i2 && i3)) = false := by cases i1 <;> cases i2 <;> cases i3 <;> simp
                  rcases hx with ⟨rfl, rfl, rfl⟩ | hx
                  · have HOK3 : Hid (okW s p = true) := Lib.hid HOW.out
                    go_wp2_with fail
                    go_roundw
                    case rel => exact ⟨k + 1, by go_num, by omega, fun j q hj hq => by
                      rcases Nat.lt_or_ge j k with h | h
                      · exact HOK2.out j q h hq
                      · obtain rfl : j = k := by omega
                        rw [HP.out] at hq
                        cases hq
                        exact HOK3.out, S4.out, RL4.out⟩
                    case measure => show nt - ((k : Int) + 1).toNat < nt - (k : Int).toNat; omega
                  · have HF : Hid (d = 1) := Lib.hid (HBB2.out.elim (fun hy => by have := hy.1.2 p (List.mem_of_getElem? HP.out); rw [HOW.out, hx] at this; cases this) (·.2))
                    clear HOW
                    cases i1 <;> cases i2 <;> cases i3 <;> simp only [Bool.and_self, Bool.and_true, Bool.and_false, Bool.false_and, Bool.true_and, Bool.true_eq_false, reduceCtorEq] at hx
                    all_goals go_wp2_with fail
                    all_goals go_ret
                    all_goals exact ⟨by rw [HF.out]; try rfl, S4.out.bel⟩
                · have hk0 : (nt : Int) ≤ (k : Int) := by omega
                  obtain rfl : k = nt := by omega
                  have HF : Hid (d = 0) := Lib.hid (HBB2.out.elim (·.2) (fun hx => absurd ⟨fun x hx => by
                    obtain ⟨i, hi⟩ := List.mem_iff_getElem?.1 hx
                    exact HOK.out i x (List.getElem?_eq_some_iff.1 hi).1 hi, fun p hp => by
                    obtain ⟨i, hi⟩ := List.mem_iff_getElem?.1 hp
                    exact HOK2.out i p (by have := lt_total hi; rw [HNT.out] at this; exact this) hi⟩ hx.1))
                  go_wp2_with fail
                  go_ret
                  exact ⟨by rw [HF.out]; try rfl, S4.out.bel⟩
        · have h3b : ((s.losses.length : Int) != (nt : Int)) = true := (neqB _ _).1.2 h3
          have HF : Hid (d = 1) := Lib.hid (HBB.out.elim (fun hx => by rw [HNH.out, HNT.out] at hx; exact absurd hx.1.2.2.2.1 h3) (·.2))
          refine tw 29 43 J1 ?_ (hy := by intro w' hSw; have q1 := hSw.c x1; have q2 := hSw.c x2; have q3 := hSw.c x3; have q4 := hSw.c x4; have q0 := hSw.c x0; go_simp; try with_reducible rfl)
          try simp only [aS]
          refine tw 30 44 J1 ?_ (hy := by intro w' hSw; have q1 := hSw.c x1; have q2 := hSw.c x2; have q3 := hSw.c x3; have q4 := hSw.c x4; have q0 := hSw.c x0; go_simp; try with_reducible rfl)
          try simp only [aS]
          refine wpAnyH_done (by kernel_rfl) ?_ _
          have BE := Lib.hid (S2.out.bel.trans ((BelS.b J1).mono S2.out.bel.size))
          clear x0 x1 x2 x3 x4
          go_wp2_with fail
          go_ret
          exact ⟨by rw [HF.out]; try rfl, BE.out⟩
      · have h2b : ((s.leaks.length : Int) != (nt : Int)) = true := (neqB _ _).1.2 h2
        have HF : Hid (d = 1) := Lib.hid (HBB.out.elim (fun hx => by rw [HNH.out, HNT.out] at hx; exact absurd hx.1.2.2.1 h2) (·.2))
        refine tw 21 35 J1 ?_ (hy := by intro w' hSw; have q1 := hSw.c x1; have q2 := hSw.c x2; have q3 := hSw.c x3; have q4 := hSw.c x4; have q0 := hSw.c x0; go_simp; try with_reducible rfl)
        try simp only [aS]
        refine tw 22 36 J1 ?_ (hy := by intro w' hSw; have q1 := hSw.c x1; have q2 := hSw.c x2; have q3 := hSw.c x3; have q4 := hSw.c x4; have q0 := hSw.c x0; go_simp; try with_reducible rfl)
        try simp only [aS]
        refine tw 23 37 J1 ?_ (hy := by intro w' hSw; have q1 := hSw.c x1; have q2 := hSw.c x2; have q3 := hSw.c x3; have q4 := hSw.c x4; have q0 := hSw.c x0; go_simp; try with_reducible rfl)
        try simp only [aS]
        refine sw 24 38 J1 ?_
        try simp only [aS]
        refine sw 25 39 J1 ?_
        try simp only [aS]
        refine sw 26 40 J1 ?_
        try simp only [aS]
        refine sw 27 41 J1 ?_
        try simp only [aS]
        refine sw 28 42 J1 ?_
        try simp only [aS]
        refine sw 29 43 J1 ?_
        try simp only [aS]
        refine tw 30 44 J1 ?_ (hy := by intro w' hSw; have q1 := hSw.c x1; have q2 := hSw.c x2; have q3 := hSw.c x3; have q4 := hSw.c x4; have q0 := hSw.c x0; go_simp; try with_reducible rfl)
        try simp only [aS]
        refine wpAnyH_done (by kernel_rfl) ?_ _
        have BE := Lib.hid (S2.out.bel.trans ((BelS.b J1).mono S2.out.bel.size))
        clear x0 x1 x2 x3 x4
        go_wp2_with fail
        go_ret
        exact ⟨by rw [HF.out]; try rfl, BE.out⟩
    · have h1b : ((s.boards.length : Int) != (nt : Int)) = true := (neqB _ _).1.2 h1
      have HF : Hid (d = 1) := Lib.hid (HBB.out.elim (fun hx => by rw [HNH.out, HNT.out] at hx; exact absurd hx.1.2.1 h1) (·.2))
      refine tw 13 27 J1 ?_ (hy := by intro w' hSw; have q1 := hSw.c x1; have q2 := hSw.c x2; have q3 := hSw.c x3; have q4 := hSw.c x4; have q0 := hSw.c x0; go_simp; try with_reducible rfl)
      try simp only [aS]
      refine tw 14 28 J1 ?_ (hy := by intro w' hSw; have q1 := hSw.c x1; have q2 := hSw.c x2; have q3 := hSw.c x3; have q4 := hSw.c x4; have q0 := hSw.c x0; go_simp; try with_reducible rfl)
      try simp only [aS]
      refine tw 15 29 J1 ?_ (hy := by intro w' hSw; have q1 := hSw.c x1; have q2 := hSw.c x2; have q3 := hSw.c x3; have q4 := hSw.c x4; have q0 := hSw.c x0; go_simp; try with_reducible rfl)
      try simp only [aS]
      refine sw 16 30 J1 ?_
      try simp only [aS]
      refine sw 17 31 J1 ?_
      try simp only [aS]
      refine sw 18 32 J1 ?_
      try simp only [aS]
      refine sw 19 33 J1 ?_
      try simp only [aS]
      refine sw 20 34 J1 ?_
      try simp only [aS]
      refine sw 21 35 J1 ?_
      try simp only [aS]
      refine tw 22 36 J1 ?_ (hy := by intro w' hSw; have q1 := hSw.c x1; have q2 := hSw.c x2; have q3 := hSw.c x3; have q4 := hSw.c x4; have q0 := hSw.c x0; go_simp; try with_reducible rfl)
      try simp only [aS]
      refine tw 23 37 J1 ?_ (hy := by intro w' hSw; have q1 := hSw.c x1; have q2 := hSw.c x2; have q3 := hSw.c x3; have q4 := hSw.c x4; have q0 := hSw.c x0; go_simp; try with_reducible rfl)
      try simp only [aS]
      refine sw 24 38 J1 ?_
      try simp only [aS]
      refine sw 25 39 J1 ?_
      try simp only [aS]
      refine sw 26 40 J1 ?_
      try simp only [aS]
      refine sw 27 41 J1 ?_
      try simp only [aS]
      refine sw 28 42 J1 ?_
      try simp only [aS]
      refine sw 29 43 J1 ?_
      try simp only [aS]
      refine tw 30 44 J1 ?_ (hy := by intro w' hSw; have q1 := hSw.c x1; have q2 := hSw.c x2; have q3 := hSw.c x3; have q4 := hSw.c x4; have q0 := hSw.c x0; go_simp; try with_reducible rfl)
      try simp only [aS]
      refine wpAnyH_done (by kernel_rfl) ?_ _
      have BE := Lib.hid (S2.out.bel.trans ((BelS.b J1).mono S2.out.bel.size))
      clear x0 x1 x2 x3 x4
      go_wp2_with fail
      go_ret
      exact ⟨by rw [HF.out]; try rfl, BE.out⟩
  · have h0b : ((s.river.length : Int) != (nh : Int)) = true := (neqB _ _).1.2 h0
    have HF : Hid (d = 1) := Lib.hid (HBB.out.elim (fun hx => by rw [HNH.out, HNT.out] at hx; exact absurd hx.1.1 h0) (·.2))
    refine tw 6 20 J1 ?_ (hy := by intro w' hSw; have q1 := hSw.c x1; have q2 := hSw.c x2; have q3 := hSw.c x3; have q4 := hSw.c x4; have q0 := hSw.c x0; go_simp; try with_reducible rfl)
    try simp only [aS]
    refine tw 7 21 J1 ?_ (hy := by intro w' hSw; have q1 := hSw.c x1; have q2 := hSw.c x2; have q3 := hSw.c x3; have q4 := hSw.c x4; have q0 := hSw.c x0; go_simp; try with_reducible rfl)
    try simp only [aS]
    refine sw 8 22 J1 ?_
    try simp only [aS]
    refine sw 9 23 J1 ?_
    try simp only [aS]
    refine sw 10 24 J1 ?_
    try simp only [aS]
    refine sw 11 25 J1 ?_
    try simp only [aS]
    refine sw 12 26 J1 ?_
    try simp only [aS]
    refine sw 13 27 J1 ?_
    try simp only [aS]
    refine tw 14 28 J1 ?_ (hy := by intro w' hSw; have q1 := hSw.c x1; have q2 := hSw.c x2; have q3 := hSw.c x3; have q4 := hSw.c x4; have q0 := hSw.c x0; go_simp; try with_reducible rfl)
    try simp only [aS]
    refine tw 15 29 J1 ?_ (hy := by intro w' hSw; have q1 := hSw.c x1; have q2 := hSw.c x2; have q3 := hSw.c x3; have q4 := hSw.c x4; have q0 := hSw.c x0; go_simp; try with_reducible rfl)
    try simp only [aS]
    refine sw 16 30 J1 ?_
    try simp only [aS]
    refine sw 17 31 J1 ?_
    try simp only [aS]
    refine sw 18 32 J1 ?_
    try simp only [aS]
    refine sw 19 33 J1 ?_
    try simp only [aS]
    refine sw 20 34 J1 ?_
    try simp only [aS]
    refine sw 21 35 J1 ?_
    try simp only [aS]
    refine tw 22 36 J1 ?_ (hy := by intro w' hSw; have q1 := hSw.c x1; have q2 := hSw.c x2; have q3 := hSw.c x3; have q4 := hSw.c x4; have q0 := hSw.c x0; go_simp; try with_reducible rfl)
    try simp only [aS]
    refine tw 23 37 J1 ?_ (hy := by intro w' hSw; have q1 := hSw.c x1; have q2 := hSw.c x2; have q3 := hSw.c x3; have q4 := hSw.c x4; have q0 := hSw.c x0; go_simp; try with_reducible rfl)
    try simp only [aS]
    refine sw 24 38 J1 ?_
    try simp only [aS]
    refine sw 25 39 J1 ?_
    try simp only [aS]
    refine sw 26 40 J1 ?_
    try simp only [aS]
    refine sw 27 41 J1 ?_
    try simp only [aS]
    refine sw 28 42 J1 ?_
    try simp only [aS]
    refine sw 29 43 J1 ?_
    try simp only [aS]
    refine tw 30 44 J1 ?_ (hy := by intro w' hSw; have q1 := hSw.c x1; have q2 := hSw.c x2; have q3 := hSw.c x3; have q4 := hSw.c x4; have q0 := hSw.c x0; go_simp; try with_reducible rfl)
    try simp only [aS]
    refine wpAnyH_done (by kernel_rfl) ?_ _
    have BE := Lib.hid (S2.out.bel.trans ((BelS.b J1).mono S2.out.bel.size))
    clear x0 x1 x2 x3 x4
    go_wp2_with fail
    go_ret
    exact ⟨by rw [HF.out]; try rfl, BE.out⟩
end Go.Proofs.Ytkoacclbempmdaa
