/- The law TurnSame, its calls met by their contracts; sanity is a hypothesis here. -/
import Derived.Test.YtlhgpeelenelbaaDoorTA
import Derived.Test.YtlhgpeelenelbaaDoorT5
namespace Go.Proofs.YtlhgpeelenelbaaDoor
open Go.RowKit

/-- A list that is no longer than some, or too long. -/
theorem three (k a b : Nat) (hab : a ≤ b) : ((k : Int) ≤ a) ∨ ((a : Int) < k ∧ (k : Int) ≤ b) ∨ ((b : Int) < k ∧ (a : Int) < k) := by omega

set_option maxHeartbeats 4000000 in
set_option maxRecDepth 100000 in
theorem sameLaw_no (hsan : ∀ W, Calls Tryd.prog 16 #[] W fun e w' => e = .returned (.bool true) ∧ Below W.heap.size W w')
    (A A' B B' : Option Addr) (k c k' c' l d l' d' : Nat) (w : World) (hf : fewB k k' = false ∨ (fewB k k' = true ∧ fewB l l' = false)) :
    Calls Tryd.prog 7 #[.agg #[.slice A k c, .slice A' k' c'], .agg #[.slice B l d, .slice B' l' d']] w fun e w' => e = .returned (.bool true) ∧ Below w.heap.size w w' := by
  have HS := Lib.hid hsan
  have S0 := Lib.hid (N2d.new (w := w) (v0 := .slice A k c) (v1 := .slice A' k' c') (u0 := .slice B l d) (u1 := .slice B' l' d') 25 25)
  clear hsan
  rcases hf with hf | ⟨hf, hf'⟩
  · have F := Lib.hid fun W => few_any A A' k c k' c' W
    rw [hf] at F
    clear hf
    go_enter Tryd.func7, Tryd.ntmps7
    go_wp2_with fail
    refine (F.out _).mono ?_
    rintro e w1 ⟨rfl, h1⟩
    have S := Lib.hid (S0.out.below h1)
    clear h1 S0
    go_wp2_with fail
    refine (HS.out _).mono ?_
    rintro e w2 ⟨rfl, h2⟩
    have S := Lib.hid (S.out.below h2)
    clear h2
    go_wp2_with fail
    go_ret
    exact ⟨rfl, S.out.bel⟩
  · have F := Lib.hid fun W => few_any A A' k c k' c' W
    rw [hf] at F
    have F' := Lib.hid fun W => few_any B B' l d l' d' W
    rw [hf'] at F'
    clear hf hf'
    go_enter Tryd.func7, Tryd.ntmps7
    go_wp2_with fail
    refine (F.out _).mono ?_
    rintro e w1 ⟨rfl, h1⟩
    have S := Lib.hid (S0.out.below h1)
    clear h1 S0
    obtain ⟨t0, t1, t2, t3, t4, _⟩ := S.out.out
    go_wp2_with fail
    refine (F'.out _).mono ?_
    rintro e w2 ⟨rfl, h2⟩
    have S := Lib.hid (S.out.below h2)
    clear h2 t0 t1 t2 t3 t4
    go_wp2_with fail
    refine (HS.out _).mono ?_
    rintro e w3 ⟨rfl, h3⟩
    have S := Lib.hid (S.out.below h3)
    clear h3
    go_wp2_with fail
    go_ret
    exact ⟨rfl, S.out.bel⟩

set_option maxHeartbeats 8000000 in
set_option maxRecDepth 100000 in
/-- Where both sets are few: whatever Same of both packages returns, it is the same. -/
theorem sameLaw_yes (hsan : ∀ W, Calls Tryd.prog 16 #[] W fun e w' => e = .returned (.bool true) ∧ Below W.heap.size W w')
    (A A' B B' : Option Addr) (k c k' c' l d l' d' : Nat) (r : Int) (bo : Bool) (q : Int) (w : World) (hf : fewB k k' = true) (hf' : fewB l l' = true)
    (P : Hid (∀ W, N2d w (.slice A k c) (.slice A' k' c') (.slice B l d) (.slice B' l' d') W → Calls Tryd.prog 43 #[.agg #[.slice A k c, .slice A' k' c'], .agg #[.slice B l d, .slice B' l' d']] W fun e w' => e = .returned (.tuple #[.int .i64 r, .bool bo, .int .i64 q]) ∧ Below W.heap.size W w'))
    (R : Hid (∀ W, N2d w (.slice A k c) (.slice A' k' c') (.slice B l d) (.slice B' l' d') W → Calls Tryd.prog 44 #[.agg #[.slice A k c, .slice A' k' c'], .agg #[.slice B l d, .slice B' l' d']] W fun e w' => e = .returned (.tuple #[.int .i64 r, .bool bo, .int .i64 q]) ∧ Below W.heap.size W w')) :
    Calls Tryd.prog 7 #[.agg #[.slice A k c, .slice A' k' c'], .agg #[.slice B l d, .slice B' l' d']] w fun e w' => e = .returned (.bool true) ∧ Below w.heap.size w w' := by
  have HS := Lib.hid hsan
  have S0 := Lib.hid (N2d.new (w := w) (v0 := .slice A k c) (v1 := .slice A' k' c') (u0 := .slice B l d) (u1 := .slice B' l' d') 25 25)
  have F := Lib.hid fun W => few_any A A' k c k' c' W
  rw [hf] at F
  have F' := Lib.hid fun W => few_any B B' l d l' d' W
  rw [hf'] at F'
  clear hsan hf hf'
  go_enter Tryd.func7, Tryd.ntmps7
  go_wp2_with fail
  refine (F.out _).mono ?_
  rintro e w1 ⟨rfl, h1⟩
  have S := Lib.hid (S0.out.below h1)
  clear h1 S0
  obtain ⟨t0, t1, t2, t3, t4, _⟩ := S.out.out
  go_wp2_with fail
  refine (F'.out _).mono ?_
  rintro e w2 ⟨rfl, h2⟩
  have S := Lib.hid (S.out.below h2)
  clear h2 t0 t1 t2 t3 t4
  obtain ⟨t0, t1, t2, t3, t4, _⟩ := S.out.out
  rcases three k 3 24 (by decide) with a1 | ⟨a1, a2⟩ | ⟨a2, a1⟩
  rotate_left 1
  · (go_wp2_with fail
     refine (HS.out _).mono ?_
     rintro e w3 ⟨rfl, h3⟩
     have S := Lib.hid (S.out.below h3)
     clear h3
     go_wp2_with fail
     go_ret
     exact ⟨rfl, S.out.bel⟩)
  all_goals
    rcases three l 3 24 (by decide) with b1 | ⟨b1, b2⟩ | ⟨b2, b1⟩
    rotate_left 1
    · (go_wp2_with fail
       refine (HS.out _).mono ?_
       rintro e w3 ⟨rfl, h3⟩
       have S := Lib.hid (S.out.below h3)
       clear h3
       go_wp2_with fail
       go_ret
       exact ⟨rfl, S.out.bel⟩)
    all_goals
      rcases three k' 4 40 (by decide) with c1 | ⟨c1, c2⟩ | ⟨c2, c1⟩
      rotate_left 1
      · (go_wp2_with fail
         refine (HS.out _).mono ?_
         rintro e w3 ⟨rfl, h3⟩
         have S := Lib.hid (S.out.below h3)
         clear h3
         go_wp2_with fail
         go_ret
         exact ⟨rfl, S.out.bel⟩)
      all_goals
        rcases three l' 4 40 (by decide) with d1 | ⟨d1, d2⟩ | ⟨d2, d1⟩
        rotate_left 1
        · (go_wp2_with fail
           refine (HS.out _).mono ?_
           rintro e w3 ⟨rfl, h3⟩
           have S := Lib.hid (S.out.below h3)
           clear h3
           go_wp2_with fail
           go_ret
           exact ⟨rfl, S.out.bel⟩)
        all_goals
          go_wp2_with fail
          refine (P.out _ S.out).mono ?_
          rintro e w3 ⟨rfl, h3⟩
          have S := Lib.hid (S.out.below h3)
          clear h3 t0 t1 t2 t3 t4
          obtain ⟨t0, t1, t2, t3, t4, _⟩ := S.out.out
          go_wp2_with fail
          refine (R.out _ S.out).mono ?_
          rintro e w4 ⟨rfl, h4⟩
          have S := Lib.hid (S.out.below h4)
          clear h4 t0 t1 t2 t3 t4
          go_wp2_with fail
          refine (HS.out _).mono ?_
          rintro e w5 ⟨rfl, h5⟩
          have S := Lib.hid (S.out.below h5)
          clear h5
          go_wp2_with fail
          go_ret
          exact ⟨rfl, S.out.bel⟩

theorem turnSame_calls (hsan : ∀ W, Calls Tryd.prog 16 #[] W fun e w' => e = .returned (.bool true) ∧ Below W.heap.size W w')
    (A A' B B' : Option Addr) (k c k' c' l d l' d' : Nat) (w : World) (ho : k ≤ 1000000000000 → k' ≤ 1000000000000 → ∃ ts ss, RM w.heap.size (.agg #[.slice A k c, .slice A' k' c']) ts ss w)
    (ho' : l ≤ 1000000000000 → l' ≤ 1000000000000 → ∃ ts ss, RM w.heap.size (.agg #[.slice B l d, .slice B' l' d']) ts ss w) :
    Calls Tryd.prog 7 #[.agg #[.slice A k c, .slice A' k' c'], .agg #[.slice B l d, .slice B' l' d']] w fun e w' => e = .returned (.bool true) ∧ Below w.heap.size w w' := by
  cases hf : fewB k k' with
  | false => exact sameLaw_no hsan A A' B B' k c k' c' l d l' d' w (.inl hf)
  | true =>
    cases hf' : fewB l l' with
    | false => exact sameLaw_no hsan A A' B B' k c k' c' l d l' d' w (.inr ⟨hf, hf'⟩)
    | true =>
      have hk : k ≤ 30 ∧ k' ≤ 50 := by
        simp only [fewB, Bool.and_eq_true, Bool.or_eq_true, decide_eq_true_eq] at hf
        omega
      have hl : l ≤ 30 ∧ l' ≤ 50 := by
        simp only [fewB, Bool.and_eq_true, Bool.or_eq_true, decide_eq_true_eq] at hf'
        omega
      obtain ⟨ts, ss, hR⟩ := ho (by omega) (by omega)
      obtain ⟨ts2, ss2, hR'⟩ := ho' (by omega) (by omega)
      obtain ⟨e1, hc⟩ := CheckIs.exists_ ts ss
      obtain ⟨e2, hc'⟩ := CheckIs.exists_ ts2 ss2
      obtain ⟨e, he⟩ := BothIs.exists_ e1 e2
      have r1 : ∀ {e : Int} {ts : List T3} {ss : List S2}, CheckIs ts ss e → e = 0 ∨ e = 1 ∨ e = 2 := fun {e ts ss} h => by
        rcases h with ⟨_, h⟩ | ⟨_, _, _, h⟩ | ⟨_, _, _, h⟩ <;> omega
      by_cases h0 : e = 0
      · subst h0
        obtain ⟨rfl, rfl⟩ : e1 = 0 ∧ e2 = 0 := by rcases he with ⟨a, b⟩ | ⟨a, b⟩ <;> omega
        obtain ⟨r, bo, hs⟩ : ∃ r bo, SameIs (setB (lotsOf ts ss)) (setB (lotsOf ts2 ss2)) r bo := by
          by_cases hx : ∃ m : Int, 0 ≤ m ∧ m ≤ 1048576 ∧ setB (lotsOf ts ss) m ≠ setB (lotsOf ts2 ss2) m
          · obtain ⟨m, m0, m1, m2⟩ := hx
            obtain ⟨N, n0, n1, n2, n3⟩ := least_int (fun m => setB (lotsOf ts ss) m ≠ setB (lotsOf ts2 ss2) m) m m0 m2
            exact ⟨N, false, .inr ⟨rfl, n0, by omega, n2, fun i i0 i1 => Decidable.byContradiction (n3 i i0 i1)⟩⟩
          · exact ⟨0, true, .inl ⟨rfl, rfl, fun m m0 m1 => Decidable.byContradiction fun h => hx ⟨m, m0, m1, h⟩⟩⟩
        exact sameLaw_yes hsan A A' B B' k c k' c' l d l' d' r bo 0 w hf hf'
          (Lib.hid fun W S => same_ok _ _ ts ts2 ss ss2 r bo W (hR.up S.siz S.bel) (hR'.up S.siz S.bel) hc hc' hs)
          (Lib.hid fun W S => rsame_ok _ _ ts ts2 ss ss2 r bo W (hR.up S.siz S.bel) (hR'.up S.siz S.bel) hc hc' hs)
      · have h12 : e = 1 ∨ e = 2 := by
          have := r1 hc
          have := r1 hc'
          rcases he with ⟨a, b⟩ | ⟨a, b⟩ <;> omega
        exact sameLaw_yes hsan A A' B B' k c k' c' l d l' d' 0 false e w hf hf'
          (Lib.hid fun W S => same_err _ _ ts ts2 ss ss2 e1 e2 e W (hR.up S.siz S.bel) (hR'.up S.siz S.bel) hc hc' he h12)
          (Lib.hid fun W S => rsame_err _ _ ts ts2 ss ss2 e1 e2 e W (hR.up S.siz S.bel) (hR'.up S.siz S.bel) hc hc' he h12)
end Go.Proofs.YtlhgpeelenelbaaDoor
