/- The law TurnSpans, its calls met by their contracts. -/
import Derived.Test.YtlhgpeelenelbaaGreatDoorYW
import Derived.Test.YtlhgpeelenelbaaGreatDoorVB
import Derived.Test.YtlhgpeelenelbaaGreatDoorHB
import Derived.Test.YtlhgpeelenelbaaGreatDoorYA
namespace Go.Proofs.YtlhgpeelenelbaaGreatDoor
open Go.RowKit


set_option maxHeartbeats 4000000 in
set_option maxRecDepth 100000 in
theorem spansLaw_no (hsan : ∀ W, Calls Tryz.prog 8 #[] W fun e w' => e = .returned (.bool true) ∧ Below W.heap.size W w') (A A' B B' : Option Addr) (k c k' c' l d l' d' : Nat) (lo hi : Int) (w : World) (hf : fewB k k' = false ∨ (fewB k k' = true ∧ fewB l l' = false) ∨ (fewB k k' = true ∧ fewB l l' = true ∧ briefB lo hi = false)) :
    Calls Tryz.prog 3 #[.agg #[.slice A k c, .slice A' k' c'], .agg #[.slice B l d, .slice B' l' d'], sv2 lo hi] w fun e w' => e = .returned (.bool true) ∧ Below w.heap.size w w' := by
  have HS := Lib.hid hsan
  have S0 := Lib.hid (N3d.new (w := w) (v0 := .slice A k c) (v1 := .slice A' k' c') (u0 := .slice B l d) (u1 := .slice B' l' d') (z0 := .int .i64 lo) (z1 := .int .i64 hi) 25 25 27)
  clear hsan
  rcases hf with f1 | ⟨f1, f2⟩ | ⟨f1, f2, f3⟩
  · have F1 := Lib.hid fun W => few_any A A' k c k' c' W
    rw [f1] at F1
    clear f1
    go_enter Tryz.func3, Tryz.ntmps3
    go_wp2_with fail
    refine (F1.out _).mono ?_
    rintro e w1 ⟨rfl, h1⟩
    have S := Lib.hid (S0.out.below h1)
    clear h1 S0
    go_wp2_with fail
    refine (HS.out _).mono ?_
    rintro e w2 ⟨rfl, h2⟩
    have S := Lib.hid (S.out.below h2)
    clear h2
    go_wp2_with fail
    go_ret
    exact ⟨rfl, S.out.bel⟩
  · have F1 := Lib.hid fun W => few_any A A' k c k' c' W
    rw [f1] at F1
    have F2 := Lib.hid fun W => few_any B B' l d l' d' W
    rw [f2] at F2
    clear f1 f2
    go_enter Tryz.func3, Tryz.ntmps3
    go_wp2_with fail
    refine (F1.out _).mono ?_
    rintro e w1 ⟨rfl, h1⟩
    have S := Lib.hid (S0.out.below h1)
    clear h1 S0
    obtain ⟨t0, t1, t2, t3, t4, t5, t6, _⟩ := S.out.out
    go_wp2_with fail
    refine (F2.out _).mono ?_
    rintro e w1 ⟨rfl, h1⟩
    have S := Lib.hid (S.out.below h1)
    clear h1 t0 t1 t2 t3 t4 t5 t6
    go_wp2_with fail
    refine (HS.out _).mono ?_
    rintro e w2 ⟨rfl, h2⟩
    have S := Lib.hid (S.out.below h2)
    clear h2
    go_wp2_with fail
    go_ret
    exact ⟨rfl, S.out.bel⟩
  · have F1 := Lib.hid fun W => few_any A A' k c k' c' W
    rw [f1] at F1
    have F2 := Lib.hid fun W => few_any B B' l d l' d' W
    rw [f2] at F2
    have F3 := Lib.hid fun W => brief_any lo hi W
    rw [f3] at F3
    clear f1 f2 f3
    go_enter Tryz.func3, Tryz.ntmps3
    go_wp2_with fail
    refine (F1.out _).mono ?_
    rintro e w1 ⟨rfl, h1⟩
    have S := Lib.hid (S0.out.below h1)
    clear h1 S0
    obtain ⟨t0, t1, t2, t3, t4, t5, t6, _⟩ := S.out.out
    go_wp2_with fail
    refine (F2.out _).mono ?_
    rintro e w1 ⟨rfl, h1⟩
    have S := Lib.hid (S.out.below h1)
    clear h1 t0 t1 t2 t3 t4 t5 t6
    obtain ⟨t0, t1, t2, t3, t4, t5, t6, _⟩ := S.out.out
    go_wp2_with fail
    refine (F3.out _).mono ?_
    rintro e w1 ⟨rfl, h1⟩
    have S := Lib.hid (S.out.below h1)
    clear h1 t0 t1 t2 t3 t4 t5 t6
    go_wp2_with fail
    refine (HS.out _).mono ?_
    rintro e w2 ⟨rfl, h2⟩
    have S := Lib.hid (S.out.below h2)
    clear h2
    go_wp2_with fail
    go_ret
    exact ⟨rfl, S.out.bel⟩

set_option maxHeartbeats 16000000 in
set_option maxRecDepth 100000 in
theorem spansLaw_yes (hsan : ∀ W, Calls Tryz.prog 8 #[] W fun e w' => e = .returned (.bool true) ∧ Below W.heap.size W w') (A A' B B' : Option Addr) (k c k' c' l d l' d' : Nat) (ts : List T3) (ss : List S2) (ts2 : List T3) (ss2 : List S2) (lo hi : Int) (w : World) (h : RM w.heap.size (.agg #[.slice A k c, .slice A' k' c']) ts ss w) (h' : RM w.heap.size (.agg #[.slice B l d, .slice B' l' d']) ts2 ss2 w) (f1 : fewB k k' = true) (f2 : fewB l l' = true) (f3 : briefB lo hi = true) :
    Calls Tryz.prog 3 #[.agg #[.slice A k c, .slice A' k' c'], .agg #[.slice B l d, .slice B' l' d'], sv2 lo hi] w fun e w' => e = .returned (.bool true) ∧ Below w.heap.size w w' := by
  have HS := Lib.hid hsan
  have S0 := Lib.hid (N3d.new (w := w) (v0 := .slice A k c) (v1 := .slice A' k' c') (u0 := .slice B l d) (u1 := .slice B' l' d') (z0 := .int .i64 lo) (z1 := .int .i64 hi) 25 25 27)
  obtain ⟨ck, hc⟩ := CheckIs.exists_ ts ss
  obtain ⟨ck', hc'⟩ := CheckIs.exists_ ts2 ss2
  obtain ⟨q, hq⟩ := InIs.exists_ ck lo hi
  obtain ⟨q0, hq0⟩ := BothIs.exists_ ck ck'
  obtain ⟨q1, hq1⟩ := InIs.exists_ q0 lo hi
  obtain ⟨r, hr⟩ := CountIs.exists_ ts ss lo hi q
  have hlen : SOk lo hi → hi - lo ≤ 999999 := fun hs => by
    have hb := f3
    unfold briefB at hb
    rw [sokB_true.2 hs] at hb
    simp at hb
    omega
  have C1 := Lib.hid fun W (S : N3d w (.slice A k c) (.slice A' k' c') (.slice B l d) (.slice B' l' d') (.int .i64 lo) (.int .i64 hi) W) => count_any _ ts ss lo hi ck q r W (h.up S.siz S.bel) hc hq hr
  have C2 := Lib.hid fun W (S : N3d w (.slice A k c) (.slice A' k' c') (.slice B l d) (.slice B' l' d') (.int .i64 lo) (.int .i64 hi) W) => rcount_any _ ts ss lo hi ck q r W (h.up S.siz S.bel) hc hq hr
  have C3 := Lib.hid fun W (S : N3d w (.slice A k c) (.slice A' k' c') (.slice B l d) (.slice B' l' d') (.int .i64 lo) (.int .i64 hi) W) => spans_any _ ts ss lo hi ck q W (h.up S.siz S.bel) hc hq
  have C4 := Lib.hid fun W (S : N3d w (.slice A k c) (.slice A' k' c') (.slice B l d) (.slice B' l' d') (.int .i64 lo) (.int .i64 hi) W) => rspans_any _ ts ss lo hi ck q W (h.up S.siz S.bel) hc hq hlen
  have C5 := Lib.hid fun W (S : N3d w (.slice A k c) (.slice A' k' c') (.slice B l d) (.slice B' l' d') (.int .i64 lo) (.int .i64 hi) W) => rest_any _ ts ss lo hi ck q W (h.up S.siz S.bel) hc hq
  have C6 := Lib.hid fun W (S : N3d w (.slice A k c) (.slice A' k' c') (.slice B l d) (.slice B' l' d') (.int .i64 lo) (.int .i64 hi) W) => rrest_any _ ts ss lo hi ck q W (h.up S.siz S.bel) hc hq hlen
  have C7 := Lib.hid fun W (S : N3d w (.slice A k c) (.slice A' k' c') (.slice B l d) (.slice B' l' d') (.int .i64 lo) (.int .i64 hi) W) => common_any _ _ ts ss ts2 ss2 lo hi ck ck' q0 q1 W (h.up S.siz S.bel) (h'.up S.siz S.bel) hc hc' hq0 hq1
  have C8 := Lib.hid fun W (S : N3d w (.slice A k c) (.slice A' k' c') (.slice B l d) (.slice B' l' d') (.int .i64 lo) (.int .i64 hi) W) => rcommon_any _ _ ts ss ts2 ss2 lo hi ck ck' q0 q1 W (h.up S.siz S.bel) (h'.up S.siz S.bel) hc hc' hq0 hq1 hlen
  have C9 := Lib.hid fun W (S : N3d w (.slice A k c) (.slice A' k' c') (.slice B l d) (.slice B' l' d') (.int .i64 lo) (.int .i64 hi) W) => covers_any _ ts ss lo hi ck q W (h.up S.siz S.bel) hc hq
  have C10 := Lib.hid fun W (S : N3d w (.slice A k c) (.slice A' k' c') (.slice B l d) (.slice B' l' d') (.int .i64 lo) (.int .i64 hi) W) => rcovers_any _ ts ss lo hi ck q W (h.up S.siz S.bel) hc hq
  generalize spn (setB (lotsOf ts ss)) lo (hi + 1 - lo).toNat = G1 at *
  generalize spn (notH (setB (lotsOf ts ss))) lo (hi + 1 - lo).toNat = G2 at *
  generalize spn (andH (setB (lotsOf ts ss)) (setB (lotsOf ts2 ss2))) lo (hi + 1 - lo).toNat = G3 at *
  generalize setB (lotsOf ts ss) = H at *
  have F1 := Lib.hid fun W => few_any A A' k c k' c' W
  rw [f1] at F1
  have F2 := Lib.hid fun W => few_any B B' l d l' d' W
  rw [f2] at F2
  have F3 := Lib.hid fun W => brief_any lo hi W
  rw [f3] at F3
  clear hsan h h' hc hc' hq hq0 hq1 hr f1 f2 f3 hlen
  go_enter Tryz.func3, Tryz.ntmps3
  go_wp2_with fail
  refine (F1.out _).mono ?_
  rintro e w1 ⟨rfl, h1⟩
  have S := Lib.hid (S0.out.below h1)
  clear h1 S0 F1
  obtain ⟨t0, t1, t2, t3, t4, t5, t6, _⟩ := S.out.out
  go_wp2_with fail
  refine (F2.out _).mono ?_
  rintro e w1 ⟨rfl, h1⟩
  have S := Lib.hid (S.out.below h1)
  clear h1 t0 t1 t2 t3 t4 t5 t6 F2
  obtain ⟨t0, t1, t2, t3, t4, t5, t6, _⟩ := S.out.out
  go_wp2_with fail
  refine (F3.out _).mono ?_
  rintro e w1 ⟨rfl, h1⟩
  have S := Lib.hid (S.out.below h1)
  clear h1 t0 t1 t2 t3 t4 t5 t6 F3
  obtain ⟨t0, t1, t2, t3, t4, t5, t6, _⟩ := S.out.out
  go_wp2_with fail
  refine (C1.out _ S.out).mono ?_
  rintro e w2 ⟨rfl, b1⟩
  have S := Lib.hid (S.out.below b1)
  clear b1 t0 t1 t2 t3 t4 t5 t6 C1
  obtain ⟨t0, t1, t2, t3, t4, t5, t6, _⟩ := S.out.out
  go_wp2_with fail
  refine (C2.out _ S.out).mono ?_
  rintro e w2 ⟨rfl, b1⟩
  have S := Lib.hid (S.out.below b1)
  clear b1 t0 t1 t2 t3 t4 t5 t6 C2
  obtain ⟨t0, t1, t2, t3, t4, t5, t6, _⟩ := S.out.out
  go_wp2_with fail
  refine (C3.out _ S.out).mono ?_
  rintro e w3 ⟨v1, l1, e1, rfl, r1, b1, i1⟩
  have S := Lib.hid (S.out.below b1)
  have R1a := Lib.hid r1
  have I1 := Lib.hid i1
  clear r1 b1 i1 t0 t1 t2 t3 t4 t5 t6 C3
  obtain ⟨t0, t1, t2, t3, t4, t5, t6, _⟩ := S.out.out
  go_wp2_with fail
  refine (C4.out _ S.out).mono ?_
  rintro e w4 ⟨v1', l1', e1', rfl, r1, b1, i1⟩
  obtain ⟨X1, n1, c1, rfl⟩ := r1.slice
  obtain ⟨rfl, rfl⟩ := ListIs.unique I1.out i1
  have ba := (Below.refl w4.heap.size w4).alloc (Nat.le_refl _) (.cells #[.slice X1 n1 c1, .int .i64 e1] 37)
  have S := Lib.hid ((S.out.below b1).below ba)
  have R1a := Lib.hid ((R1a.out.later b1).later ba)
  have R1b := Lib.hid (r1.later ba)
  have T1 := Lib.hid (Two.new (W := w4) (x := .slice X1 n1 c1) (y := .int .i64 e1) 37)
  clear r1 b1 i1 I1 ba t0 t1 t2 t3 t4 t5 t6 C4
  obtain ⟨t0, t1, t2, t3, t4, t5, t6, _⟩ := S.out.out
  go_wp2_with fail
  refine (C5.out _ S.out).mono ?_
  rintro e w3 ⟨v2, l2, e2, rfl, r2, b1, i2⟩
  have S := Lib.hid (S.out.below b1)
  have R1a := Lib.hid (R1a.out.later b1)
  have R1b := Lib.hid (R1b.out.later b1)
  have T1 := Lib.hid (T1.out.below b1)
  have R2a := Lib.hid r2
  have I2 := Lib.hid i2
  clear r2 b1 i2 t0 t1 t2 t3 t4 t5 t6 C5
  obtain ⟨t0, t1, t2, t3, t4, t5, t6, _⟩ := S.out.out
  go_wp2_with fail
  refine (C6.out _ S.out).mono ?_
  rintro e w4 ⟨v2', l2', e2', rfl, r2, b1, i2⟩
  obtain ⟨X2, n2, c2, rfl⟩ := r2.slice
  obtain ⟨rfl, rfl⟩ := ListIs.unique I2.out i2
  have ba := (Below.refl w4.heap.size w4).alloc (Nat.le_refl _) (.cells #[.slice X2 n2 c2, .int .i64 e2] 37)
  have S := Lib.hid ((S.out.below b1).below ba)
  have R1a := Lib.hid ((R1a.out.later b1).later ba)
  have R1b := Lib.hid ((R1b.out.later b1).later ba)
  have R2a := Lib.hid ((R2a.out.later b1).later ba)
  have T1 := Lib.hid ((T1.out.below b1).below ba)
  have R2b := Lib.hid (r2.later ba)
  have T2 := Lib.hid (Two.new (W := w4) (x := .slice X2 n2 c2) (y := .int .i64 e2) 37)
  clear r2 b1 i2 I2 ba t0 t1 t2 t3 t4 t5 t6 C6
  obtain ⟨t0, t1, t2, t3, t4, t5, t6, _⟩ := S.out.out
  go_wp2_with fail
  refine (C7.out _ S.out).mono ?_
  rintro e w3 ⟨v3, l3, e3, rfl, r3, b1, i3⟩
  have S := Lib.hid (S.out.below b1)
  have R1a := Lib.hid (R1a.out.later b1)
  have R1b := Lib.hid (R1b.out.later b1)
  have R2a := Lib.hid (R2a.out.later b1)
  have R2b := Lib.hid (R2b.out.later b1)
  have T1 := Lib.hid (T1.out.below b1)
  have T2 := Lib.hid (T2.out.below b1)
  have R3a := Lib.hid r3
  have I3 := Lib.hid i3
  clear r3 b1 i3 t0 t1 t2 t3 t4 t5 t6 C7
  obtain ⟨t0, t1, t2, t3, t4, t5, t6, _⟩ := S.out.out
  go_wp2_with fail
  refine (C8.out _ S.out).mono ?_
  rintro e w4 ⟨v3', l3', e3', rfl, r3, b1, i3⟩
  obtain ⟨X3, n3, c3, rfl⟩ := r3.slice
  obtain ⟨rfl, rfl⟩ := ListIs.unique I3.out i3
  have ba := (Below.refl w4.heap.size w4).alloc (Nat.le_refl _) (.cells #[.slice X3 n3 c3, .int .i64 e3] 37)
  have S := Lib.hid ((S.out.below b1).below ba)
  have R1a := Lib.hid ((R1a.out.later b1).later ba)
  have R1b := Lib.hid ((R1b.out.later b1).later ba)
  have R2a := Lib.hid ((R2a.out.later b1).later ba)
  have R2b := Lib.hid ((R2b.out.later b1).later ba)
  have R3a := Lib.hid ((R3a.out.later b1).later ba)
  have T1 := Lib.hid ((T1.out.below b1).below ba)
  have T2 := Lib.hid ((T2.out.below b1).below ba)
  have R3b := Lib.hid (r3.later ba)
  have T3 := Lib.hid (Two.new (W := w4) (x := .slice X3 n3 c3) (y := .int .i64 e3) 37)
  clear r3 b1 i3 I3 ba t0 t1 t2 t3 t4 t5 t6 C8
  obtain ⟨t0, t1, t2, t3, t4, t5, t6, _⟩ := S.out.out
  go_wp2_with fail
  refine (C9.out _ S.out).mono ?_
  rintro e w5 ⟨p, bo, rfl, hp, b1⟩
  have S := Lib.hid (S.out.below b1)
  have R1a := Lib.hid (R1a.out.later b1)
  have R1b := Lib.hid (R1b.out.later b1)
  have R2a := Lib.hid (R2a.out.later b1)
  have R2b := Lib.hid (R2b.out.later b1)
  have R3a := Lib.hid (R3a.out.later b1)
  have R3b := Lib.hid (R3b.out.later b1)
  have T1 := Lib.hid (T1.out.below b1)
  have T2 := Lib.hid (T2.out.below b1)
  have T3 := Lib.hid (T3.out.below b1)
  have HP := Lib.hid hp
  clear hp b1 t0 t1 t2 t3 t4 t5 t6 C9
  obtain ⟨t0, t1, t2, t3, t4, t5, t6, _⟩ := S.out.out
  go_wp2_with fail
  refine (C10.out _ S.out).mono ?_
  rintro e w6 ⟨p', bo', rfl, hp, b1⟩
  obtain ⟨rfl, rfl⟩ := CovPost.same HP.out hp
  have S := Lib.hid (S.out.below b1)
  have R1a := Lib.hid (R1a.out.later b1)
  have R1b := Lib.hid (R1b.out.later b1)
  have R2a := Lib.hid (R2a.out.later b1)
  have R2b := Lib.hid (R2b.out.later b1)
  have R3a := Lib.hid (R3a.out.later b1)
  have R3b := Lib.hid (R3b.out.later b1)
  have T1 := Lib.hid (T1.out.below b1)
  have T2 := Lib.hid (T2.out.below b1)
  have T3 := Lib.hid (T3.out.below b1)
  clear hp b1 t0 t1 t2 t3 t4 t5 t6 C10 HP
  obtain ⟨p0, q0, _⟩ := T1.out
  obtain ⟨p1, q1, _⟩ := T2.out
  obtain ⟨p2, q2, _⟩ := T3.out
  go_wp2_with fail
  refine (sameSpans_eq _ _ _ _ R1a.out R1b.out).mono ?_
  rintro e w7 ⟨rfl, b1⟩
  have S := Lib.hid (S.out.below b1)
  have R2a := Lib.hid (R2a.out.later b1)
  have R2b := Lib.hid (R2b.out.later b1)
  have R3a := Lib.hid (R3a.out.later b1)
  have R3b := Lib.hid (R3b.out.later b1)
  have T1 := Lib.hid (T1.out.below b1)
  have T2 := Lib.hid (T2.out.below b1)
  have T3 := Lib.hid (T3.out.below b1)
  clear b1 R1a R1b
  clear p0 q0 p1 q1 p2 q2
  obtain ⟨p0, q0, _⟩ := T1.out
  obtain ⟨p1, q1, _⟩ := T2.out
  obtain ⟨p2, q2, _⟩ := T3.out
  go_wp2_with fail
  refine (sameSpans_eq _ _ _ _ R2a.out R2b.out).mono ?_
  rintro e w7 ⟨rfl, b1⟩
  have S := Lib.hid (S.out.below b1)
  have R3a := Lib.hid (R3a.out.later b1)
  have R3b := Lib.hid (R3b.out.later b1)
  have T1 := Lib.hid (T1.out.below b1)
  have T2 := Lib.hid (T2.out.below b1)
  have T3 := Lib.hid (T3.out.below b1)
  clear b1 R2a R2b
  clear p0 q0 p1 q1 p2 q2
  obtain ⟨p0, q0, _⟩ := T1.out
  obtain ⟨p1, q1, _⟩ := T2.out
  obtain ⟨p2, q2, _⟩ := T3.out
  go_wp2_with fail
  refine (HS.out _).mono ?_
  rintro e w8 ⟨rfl, b1⟩
  have S := Lib.hid (S.out.below b1)
  have R3a := Lib.hid (R3a.out.later b1)
  have R3b := Lib.hid (R3b.out.later b1)
  have T1 := Lib.hid (T1.out.below b1)
  have T2 := Lib.hid (T2.out.below b1)
  have T3 := Lib.hid (T3.out.below b1)
  clear b1
  clear p0 q0 p1 q1 p2 q2
  obtain ⟨p0, q0, _⟩ := T1.out
  obtain ⟨p1, q1, _⟩ := T2.out
  obtain ⟨p2, q2, _⟩ := T3.out
  go_wp2_with fail
  refine (sameSpans_eq _ _ _ _ R3a.out R3b.out).mono ?_
  rintro e w9 ⟨rfl, b1⟩
  have S := Lib.hid (S.out.below b1)
  have T1 := Lib.hid (T1.out.below b1)
  have T2 := Lib.hid (T2.out.below b1)
  have T3 := Lib.hid (T3.out.below b1)
  clear b1 R3a R3b
  clear p0 q0 p1 q1 p2 q2
  obtain ⟨p0, q0, _⟩ := T1.out
  obtain ⟨p1, q1, _⟩ := T2.out
  obtain ⟨p2, q2, _⟩ := T3.out
  go_wp2_with fail
  go_ret
  exact ⟨by simp, S.out.bel⟩

theorem turnSpans_calls (hsan : ∀ W, Calls Tryz.prog 8 #[] W fun e w' => e = .returned (.bool true) ∧ Below W.heap.size W w') (A : Option Addr) (k c : Nat) (A' : Option Addr) (k' c' : Nat) (B : Option Addr) (l d : Nat) (B' : Option Addr) (l' d' : Nat) (lo hi : Int) (w : World) (ho : k ≤ 1000000000000 → k' ≤ 1000000000000 → ∃ ts ss, RM w.heap.size (.agg #[.slice A k c, .slice A' k' c']) ts ss w)
    (ho' : l ≤ 1000000000000 → l' ≤ 1000000000000 → ∃ ts ss, RM w.heap.size (.agg #[.slice B l d, .slice B' l' d']) ts ss w) :
    Calls Tryz.prog 3 #[.agg #[.slice A k c, .slice A' k' c'], .agg #[.slice B l d, .slice B' l' d'], sv2 lo hi] w fun e w' => e = .returned (.bool true) ∧ Below w.heap.size w w' := by
  cases f1 : fewB k k' with
  | false => exact spansLaw_no hsan A A' B B' k c k' c' l d l' d' lo hi w (.inl f1)
  | true =>
    cases f2 : fewB l l' with
    | false => exact spansLaw_no hsan A A' B B' k c k' c' l d l' d' lo hi w (.inr (.inl ⟨f1, f2⟩))
    | true =>
      cases f3 : briefB lo hi with
      | false => exact spansLaw_no hsan A A' B B' k c k' c' l d l' d' lo hi w (.inr (.inr ⟨f1, f2, f3⟩))
      | true =>
        have hk : k ≤ 30 ∧ k' ≤ 50 := by
          simp only [fewB, Bool.and_eq_true, Bool.or_eq_true, decide_eq_true_eq] at f1
          omega
        have hl : l ≤ 30 ∧ l' ≤ 50 := by
          simp only [fewB, Bool.and_eq_true, Bool.or_eq_true, decide_eq_true_eq] at f2
          omega
        obtain ⟨ts, ss, h⟩ := ho (by omega) (by omega)
        obtain ⟨ts2, ss2, h'⟩ := ho' (by omega) (by omega)
        exact spansLaw_yes hsan A A' B B' k c k' c' l d l' d' ts ss ts2 ss2 lo hi w h h' f1 f2 f3
end Go.Proofs.YtlhgpeelenelbaaGreatDoor
