/- Two sets in memory; contracts of checkBoth and season. -/
import Derived.Test.YtlhgpeelenelbaaDoorHB
import Derived.Test.YtlhgpeelenelbaaDoorE4
import Derived.Test.YtlhgpeelenelbaaDoorVB
import Derived.Test.YtlhgpeelenelbaaDoorE7
import Derived.Test.YtlhgpeelenelbaaDoorJK
namespace Go.Proofs.YtlhgpeelenelbaaDoor
open Go.RowKit

theorem check_rm {v : Value} {ts : List T3} {ss : List S2} {c : Int} {w : World} (h : RM w.heap.size v ts ss w) (hc : CheckIs ts ss c) :
    Calls Tryd.prog 25 #[v] w fun e w' => e = .returned (.int .i64 c) ∧ Below w.heap.size w w' := by
  obtain ⟨a, b, e, a', b', e', rfl, x1, x2⟩ := h
  exact check_any _ _ ts ss c w x1 x2 hc
theorem rcheck_rm {v : Value} {ts : List T3} {ss : List S2} {c : Int} {w : World} (h : RM w.heap.size v ts ss w) (hc : CheckIs ts ss c) :
    Calls Tryd.prog 26 #[v] w fun e w' => e = .returned (.int .i64 c) ∧ Below w.heap.size w w' := by
  obtain ⟨a, b, e, a', b', e', rfl, x1, x2⟩ := h
  exact rcheck_any _ _ ts ss c w x1 x2 hc

/-- The two sets that a function holds in its first blocks. -/
abbrev N2 (w : World) (v0 v1 u0 u1 : Value) (W : World) : Prop :=
  W.cell? ⟨w.heap.size, 0, none⟩ = some v0 ∧ W.cell? ⟨w.heap.size, 1, none⟩ = some v1 ∧ W.cell? ⟨w.heap.size + 1, 0, none⟩ = some u0 ∧ W.cell? ⟨w.heap.size + 1, 1, none⟩ = some u1 ∧ w.heap.size + 1 < W.heap.size ∧ Below w.heap.size w W
def N2d (w : World) (v0 v1 u0 u1 : Value) (W : World) : Prop := N2 w v0 v1 u0 u1 W
section
variable {w W W' : World} {v0 v1 u0 u1 : Value}
theorem N2d.out (h : N2d w v0 v1 u0 u1 W) : N2 w v0 v1 u0 u1 W := h
theorem N2d.below (h : N2d w v0 v1 u0 u1 W) (hb : Below W.heap.size W W') : N2d w v0 v1 u0 u1 W' := by
  obtain ⟨a0, a1, b0, b1, l1, hB⟩ := h.out
  have hs := hb.size
  exact ⟨(hb.cell (p := ⟨w.heap.size, 0, none⟩) (by show w.heap.size < _; omega)).trans a0, (hb.cell (p := ⟨w.heap.size, 1, none⟩) (by show w.heap.size < _; omega)).trans a1, (hb.cell (p := ⟨w.heap.size + 1, 0, none⟩) l1).trans b0, (hb.cell (p := ⟨w.heap.size + 1, 1, none⟩) l1).trans b1, by omega, hB.trans (hb.mono (by omega))⟩
theorem N2d.drew (h : N2d w v0 v1 u0 u1 W) : N2d w v0 v1 u0 u1 W.drew := h.below (Below.refl _ _).drew
theorem N2d.alloc (h : N2d w v0 v1 u0 u1 W) (o : Obj) : N2d w v0 v1 u0 u1 (W.alloc o) := h.below ((Below.refl _ _).alloc (Nat.le_refl _) o)
theorem N2d.new (t t' : TypeId) : N2d w v0 v1 u0 u1 ((w.alloc (.cells #[v0, v1] t)).alloc (.cells #[u0, u1] t')) :=
  ⟨by simp [go_sem], by simp [go_sem], by simp [go_sem], by simp [go_sem], by simp, ((Below.refl _ _).alloc (Nat.le_refl _) _).alloc (by simp) _⟩
theorem N2d.bel (h : N2d w v0 v1 u0 u1 W) : Below w.heap.size w W := h.out.2.2.2.2.2
theorem N2d.siz (h : N2d w v0 v1 u0 u1 W) : w.heap.size ≤ W.heap.size := h.bel.size
end

/-- The error of two sets. -/
def BothIs (c c' d : Int) : Prop := (c ≠ 0 ∧ d = c) ∨ (c = 0 ∧ d = c')
theorem BothIs.exists_ (c c' : Int) : ∃ d, BothIs c c' d := by
  by_cases h : c = 0
  · exact ⟨_, .inr ⟨h, rfl⟩⟩
  · exact ⟨_, .inl ⟨h, rfl⟩⟩

set_option maxHeartbeats 1000000 in
set_option maxRecDepth 100000 in
theorem checkBoth_any (va vb : Value) (ts ts2 : List T3) (ss ss2 : List S2) (c c' d : Int) (w : World) (h : RM w.heap.size va ts ss w) (h' : RM w.heap.size vb ts2 ss2 w) (hc : CheckIs ts ss c) (hc' : CheckIs ts2 ss2 c') (hd : BothIs c c' d) :
    Calls Tryd.prog 98 #[va, vb] w fun e w' => e = .returned (.int .i64 d) ∧ Below w.heap.size w w' := by
  obtain ⟨A, k, ca, A', k', ca', rfl, -⟩ := id h
  obtain ⟨B, l, cb, B', l', cb', rfl, -⟩ := id h'
  have C := Lib.hid fun W (S : N2d w (.slice A k ca) (.slice A' k' ca') (.slice B l cb) (.slice B' l' cb') W) => check_rm (h.up S.siz S.bel) hc
  have C' := Lib.hid fun W (S : N2d w (.slice A k ca) (.slice A' k' ca') (.slice B l cb) (.slice B' l' cb') W) => check_rm (h'.up S.siz S.bel) hc'
  have S0 := Lib.hid (N2d.new (w := w) (v0 := .slice A k ca) (v1 := .slice A' k' ca') (u0 := .slice B l cb) (u1 := .slice B' l' cb') 25 25)
  clear h h' hc hc'
  rcases hd with ⟨h0, rfl⟩ | ⟨rfl, rfl⟩
  · go_enter Tryd.func98, Tryd.ntmps98
    go_wp2_with fail
    refine (C.out _ S0.out).mono ?_
    rintro e w1 ⟨rfl, h1⟩
    have S := Lib.hid (S0.out.below h1)
    clear h1 S0
    go_wp2_with fail
    go_ret
    exact ⟨rfl, S.out.bel⟩
  · go_enter Tryd.func98, Tryd.ntmps98
    go_wp2_with fail
    refine (C.out _ S0.out).mono ?_
    rintro e w1 ⟨rfl, h1⟩
    have S := Lib.hid (S0.out.below h1)
    clear h1 S0
    obtain ⟨t0, t1, t2, t3, t4, _⟩ := S.out.out
    go_wp2_with fail
    refine (C'.out _ S.out).mono ?_
    rintro e w2 ⟨rfl, h2⟩
    have S := Lib.hid (S.out.below h2)
    clear h2 t0 t1 t2 t3 t4
    go_wp2_with fail
    go_ret
    exact ⟨rfl, S.out.bel⟩

set_option maxHeartbeats 400000 in
theorem season_any (w : World) : Calls Tryd.prog 100 #[] w fun e w' => e = .returned (sv2 0 1048576) ∧ Below w.heap.size w w' := by
  go_enter Tryd.func100, Tryd.ntmps100
  go_wp2_with fail
  exact bodyPost_ret (v := sv2 0 1048576) (by simp [results, Tryd.results100, go_sem]) rfl ⟨rfl, (Below.refl _ _).alloc (Nat.le_refl _) _⟩
end Go.Proofs.YtlhgpeelenelbaaDoor

/- The law TurnLists, its calls met by their contracts. -/
namespace Go.Proofs.YtlhgpeelenelbaaDoor
open Go.RowKit

theorem ListIs.unique {d : Int} {full l l' : List S2} {c c' : Int} (h : ListIs d full l c) (h' : ListIs d full l' c') : l = l' ∧ c = c' := by
  rcases h with ⟨a, rfl, rfl⟩ | ⟨a, b, rfl, rfl⟩ | ⟨a, b, rfl, rfl⟩ <;> rcases h' with ⟨x, rfl, rfl⟩ | ⟨x, y, rfl, rfl⟩ | ⟨x, y, rfl, rfl⟩ <;> first | exact ⟨rfl, rfl⟩ | omega
theorem InIs.exists_ (c lo hi : Int) : ∃ d, InIs c lo hi d := by
  by_cases h : c = 0
  · by_cases h' : SOk lo hi
    · exact ⟨_, .inr (.inl ⟨h, h', rfl⟩)⟩
    · exact ⟨_, .inr (.inr ⟨h, h', rfl⟩)⟩
  · exact ⟨_, .inl ⟨h, rfl⟩⟩
theorem RS.later {v : Value} {l : List S2} {W W' : World} (h : RS W.heap.size v l W) (hb : Below W.heap.size W W') : RS W'.heap.size v l W' := h.up hb.size hb
theorem RS.slice {B : Nat} {v : Value} {l : List S2} {W : World} (h : RS B v l W) : ∃ A n c, v = .slice A n c := by
  obtain ⟨A, c, rfl, _⟩ := h
  exact ⟨_, _, _, rfl⟩

theorem sameSpans_eq (va vb : Value) (a : List S2) (w : World) (ha : RS w.heap.size va a w) (hb : RS w.heap.size vb a w) :
    Calls Tryd.prog 42 #[va, vb] w fun e w' => e = .returned (.bool true) ∧ Below w.heap.size w w' := by
  have := sameSpans_any va vb a a w ha hb
  rwa [decide_eq_true rfl] at this

set_option maxHeartbeats 4000000 in
set_option maxRecDepth 100000 in
theorem lists_no (hsan : ∀ W, Calls Tryd.prog 16 #[] W fun e w' => e = .returned (.bool true) ∧ Below W.heap.size W w')
    (A A' : Option Addr) (k c k' c' : Nat) (lo hi : Int) (w : World) (hf : 2 < k ∨ 8 < k' ∨ (SOk lo hi ∧ 12000 ≤ hi - lo)) :
    Calls Tryd.prog 6 #[.agg #[.slice A k c, .slice A' k' c'], sv2 lo hi] w fun e w' => e = .returned (.bool true) ∧ Below w.heap.size w w' := by
  have HS := Lib.hid hsan
  have S0 := Lib.hid (N2d.new (w := w) (v0 := .slice A k c) (v1 := .slice A' k' c') (u0 := .int .i64 lo) (u1 := .int .i64 hi) 25 49)
  clear hsan
  by_cases c1 : 2 < k
  · have h1 : (2 : Int) < (k : Int) := by omega
    have S := S0
    clear hf c1 S0
    go_enter Tryd.func6, Tryd.ntmps6
    go_wp2_with fail
    refine (HS.out _).mono ?_
    rintro e w2 ⟨rfl, h2⟩
    have S2 := Lib.hid (S.out.below h2)
    clear h2 S
    go_wp2_with fail
    go_ret
    exact ⟨rfl, S2.out.bel⟩
  have h1 : (k : Int) ≤ 2 := by omega
  by_cases c2 : 8 < k'
  · have h2 : (8 : Int) < (k' : Int) := by omega
    have S := S0
    clear hf c1 c2 S0
    go_enter Tryd.func6, Tryd.ntmps6
    go_wp2_with fail
    refine (HS.out _).mono ?_
    rintro e w2 ⟨rfl, h2⟩
    have S2 := Lib.hid (S.out.below h2)
    clear h2 S
    go_wp2_with fail
    go_ret
    exact ⟨rfl, S2.out.bel⟩
  have h2 : (k' : Int) ≤ 8 := by omega
  · obtain ⟨⟨s1, s2, s3⟩, s4⟩ : SOk lo hi ∧ 12000 ≤ hi - lo := by
      rcases hf with h | h | h
      · omega
      · omega
      · exact h
    have K0 := Lib.hid fun W => rspan_any lo hi W
    rw [sokB_true.2 ⟨s1, s2, s3⟩] at K0
    have W1 : IntKind.i64.wrap (hi - lo) = hi - lo := IntWalk.i64_in _ (by omega)
    clear hf c1 c2
    go_enter Tryd.func6, Tryd.ntmps6
    go_wp2_with fail
    refine (K0.out _).mono ?_
    rintro e w1 ⟨rfl, h3⟩
    have S := Lib.hid (S0.out.below h3)
    clear h3 S0
    obtain ⟨t0, t1, t2, t3, t4, _⟩ := S.out.out
    go_wp2_with fail
    refine (HS.out _).mono ?_
    rintro e w2 ⟨rfl, h2⟩
    have S2 := Lib.hid (S.out.below h2)
    clear h2 S
    go_wp2_with fail
    go_ret
    exact ⟨rfl, S2.out.bel⟩

set_option maxHeartbeats 8000000 in
set_option maxRecDepth 100000 in
theorem lists_yes (hsan : ∀ W, Calls Tryd.prog 16 #[] W fun e w' => e = .returned (.bool true) ∧ Below W.heap.size W w')
    (A A' : Option Addr) (k c k' c' : Nat) (ts : List T3) (ss : List S2) (lo hi : Int) (w : World) (h : RM w.heap.size (.agg #[.slice A k c, .slice A' k' c']) ts ss w) (f1 : k ≤ 2) (f2 : k' ≤ 8) (f3 : SOk lo hi → hi - lo < 12000) :
    Calls Tryd.prog 6 #[.agg #[.slice A k c, .slice A' k' c'], sv2 lo hi] w fun e w' => e = .returned (.bool true) ∧ Below w.heap.size w w' := by
  have HS := Lib.hid hsan
  have S0 := Lib.hid (N2d.new (w := w) (v0 := .slice A k c) (v1 := .slice A' k' c') (u0 := .int .i64 lo) (u1 := .int .i64 hi) 25 49)
  obtain ⟨ck, hc⟩ := CheckIs.exists_ ts ss
  obtain ⟨d, hd⟩ := InIs.exists_ ck lo hi
  have C1 := Lib.hid fun W (S : N2d w (.slice A k c) (.slice A' k' c') (.int .i64 lo) (.int .i64 hi) W) => spans_any _ ts ss lo hi ck d W (h.up S.siz S.bel) hc hd
  have C2 := Lib.hid fun W (S : N2d w (.slice A k c) (.slice A' k' c') (.int .i64 lo) (.int .i64 hi) W) => rspans_any _ ts ss lo hi ck d W (h.up S.siz S.bel) hc hd (fun hs => by have := f3 hs; omega)
  have C3 := Lib.hid fun W (S : N2d w (.slice A k c) (.slice A' k' c') (.int .i64 lo) (.int .i64 hi) W) => rest_any _ ts ss lo hi ck d W (h.up S.siz S.bel) hc hd
  have C4 := Lib.hid fun W (S : N2d w (.slice A k c) (.slice A' k' c') (.int .i64 lo) (.int .i64 hi) W) => rrest_any _ ts ss lo hi ck d W (h.up S.siz S.bel) hc hd (fun hs => by have := f3 hs; omega)
  generalize spn (setB (lotsOf ts ss)) lo (hi + 1 - lo).toNat = F1 at *
  generalize spn (notH (setB (lotsOf ts ss))) lo (hi + 1 - lo).toNat = F2 at *
  have h1 : decide ((2 : Int) < (k : Int)) = false := by simp; omega
  have h2 : decide ((8 : Int) < (k' : Int)) = false := by simp; omega
  have K0 := Lib.hid fun W => rspan_any lo hi W
  have hsk : (sokB lo hi = true ∧ 0 ≤ lo ∧ lo ≤ hi ∧ hi ≤ 1048576 ∧ hi - lo < 12000) ∨ sokB lo hi = false := by
    cases hh : sokB lo hi
    · exact .inr rfl
    · have hs := sokB_true.1 hh
      exact .inl ⟨rfl, hs.1, hs.2.1, hs.2.2, f3 hs⟩
  generalize sokB lo hi = sb at *
  clear hsan h hc hd f1 f2 f3
  go_enter Tryd.func6, Tryd.ntmps6
  go_wp2_with fail
  refine (K0.out _).mono ?_
  rintro e w1 ⟨rfl, h3⟩
  have S := Lib.hid (S0.out.below h3)
  have HSK := Lib.hid hsk
  clear h3 S0 K0 hsk
  have W1 : sb = true → IntKind.i64.wrap (hi - lo) = hi - lo := fun hb => IntWalk.i64_in _ (by have := HSK.out; simp [hb] at this; omega)
  have HW1 := Lib.hid W1
  clear W1
  cases sb
  all_goals
    have q := HSK.out
    rcases q with ⟨hb, q1, q2, q3, q4⟩ | hb <;> cases hb
  all_goals
    (try have W1 := HW1.out rfl)
    obtain ⟨t0, t1, t2, t3, t4, _⟩ := S.out.out
    go_wp2_with fail
    clear t0 t1 t2 t3 t4
    (try clear q1 q2 q3 q4 W1)
    clear HW1 HSK
    refine (C1.out _ S.out).mono ?_
    rintro e w2 ⟨v1, l1, e1, rfl, r1, b1, i1⟩
    have S := Lib.hid (S.out.below b1)
    have R1 := Lib.hid r1
    have I1 := Lib.hid i1
    clear r1 b1 i1
    obtain ⟨t0, t1, t2, t3, t4, _⟩ := S.out.out
    go_wp2_with fail
    refine (C2.out _ S.out).mono ?_
    rintro e w3 ⟨v2, l2, e2, rfl, r2, b2, i2⟩
    obtain ⟨A2, n2, c2, rfl⟩ := r2.slice
    obtain ⟨rfl, rfl⟩ := ListIs.unique I1.out i2
    have S := Lib.hid (S.out.below b2)
    have R1 := Lib.hid (R1.out.later b2)
    have R2 := Lib.hid r2
    clear r2 b2 i2 I1 t0 t1 t2 t3 t4
    have S' := Lib.hid (S.out.alloc (.cells #[.slice A2 n2 c2, .int .i64 e1] 54))
    have R1' := Lib.hid (R1.out.later ((Below.refl _ _).alloc (Nat.le_refl _) (.cells #[.slice A2 n2 c2, .int .i64 e1] 54)))
    have R2' := Lib.hid (R2.out.later ((Below.refl _ _).alloc (Nat.le_refl _) (.cells #[.slice A2 n2 c2, .int .i64 e1] 54)))
    have T2 := Lib.hid (Two.new (W := w3) (x := .slice A2 n2 c2) (y := .int .i64 e1) 54)
    obtain ⟨t0, t1, t2, t3, t4, _⟩ := S'.out.out
    clear S R1 R2
    go_wp2_with fail
    clear t0 t1 t2 t3 t4
    refine (C3.out _ S'.out).mono ?_
    rintro e w4 ⟨v3, l3, e3, rfl, r3, b3, i3⟩
    have S := Lib.hid (S'.out.below b3)
    have R1 := Lib.hid (R1'.out.later b3)
    have R2 := Lib.hid (R2'.out.later b3)
    have T2 := Lib.hid (T2.out.below b3)
    have R3 := Lib.hid r3
    have I3 := Lib.hid i3
    clear r3 b3 i3 R1' R2' S'
    obtain ⟨t0, t1, t2, t3, t4, _⟩ := S.out.out
    go_wp2_with fail
    clear t0 t1 t2 t3 t4
    refine (C4.out _ S.out).mono ?_
    rintro e w5 ⟨v4, l4, e4, rfl, r4, b4, i4⟩
    obtain ⟨A4, n4, c4, rfl⟩ := r4.slice
    obtain ⟨rfl, rfl⟩ := ListIs.unique I3.out i4
    have ba := (Below.refl w5.heap.size w5).alloc (Nat.le_refl _) (.cells #[.slice A4 n4 c4, .int .i64 e3] 54)
    have S' := Lib.hid ((S.out.below b4).below ba)
    have R1 := Lib.hid ((R1.out.later b4).later ba)
    have R2 := Lib.hid ((R2.out.later b4).later ba)
    have R3 := Lib.hid ((R3.out.later b4).later ba)
    have R4 := Lib.hid (r4.later ba)
    have T2 := Lib.hid ((T2.out.below b4).below ba)
    have T4 := Lib.hid (Two.new (W := w5) (x := .slice A4 n4 c4) (y := .int .i64 e3) 54)
    clear r4 b4 i4 I3 S ba
    go_wp2_with fail
    refine (HS.out _).mono ?_
    rintro e w6 ⟨rfl, b6⟩
    have S := Lib.hid (S'.out.below b6)
    have R1 := Lib.hid (R1.out.later b6)
    have R2 := Lib.hid (R2.out.later b6)
    have R3 := Lib.hid (R3.out.later b6)
    have R4 := Lib.hid (R4.out.later b6)
    have T2 := Lib.hid (T2.out.below b6)
    have T4 := Lib.hid (T4.out.below b6)
    clear b6 S'
    obtain ⟨p0, p1, _⟩ := T2.out
    obtain ⟨q0, q1, _⟩ := T4.out
    go_wp2_with fail
    refine (sameSpans_eq _ _ _ _ R1.out R2.out).mono ?_
    rintro e w7 ⟨rfl, b7⟩
    have S := Lib.hid (S.out.below b7)
    have R3 := Lib.hid (R3.out.later b7)
    have R4 := Lib.hid (R4.out.later b7)
    have T2 := Lib.hid (T2.out.below b7)
    have T4 := Lib.hid (T4.out.below b7)
    clear b7 R1 R2 p0 p1 q0 q1
    obtain ⟨p0, p1, _⟩ := T2.out
    obtain ⟨q0, q1, _⟩ := T4.out
    go_wp2_with fail
    refine (sameSpans_eq _ _ _ _ R3.out R4.out).mono ?_
    rintro e w8 ⟨rfl, b8⟩
    have S := Lib.hid (S.out.below b8)
    have T4 := Lib.hid (T4.out.below b8)
    clear b8 R3 R4 p0 p1 q0 q1 T2
    obtain ⟨q0, q1, _⟩ := T4.out
    go_wp2_with fail
    go_ret
    exact ⟨rfl, S.out.bel⟩
end Go.Proofs.YtlhgpeelenelbaaDoor
