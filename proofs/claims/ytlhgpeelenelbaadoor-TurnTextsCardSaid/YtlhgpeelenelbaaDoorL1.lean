/- The law TurnParts, its calls met by their contracts; sanity is a hypothesis here. -/
import Derived.Test.YtlhgpeelenelbaaDoorB2
import Derived.Test.YtlhgpeelenelbaaDoorB4
namespace Go.Proofs.YtlhgpeelenelbaaDoor
open Go.RowKit

theorem ApartIs.unique {pa fa la pb fb lb G m m' : Int} {b b' : Bool} (h : ApartIs pa fa la pb fb lb G m b) (h' : ApartIs pa fa la pb fb lb G m' b') : m = m' ∧ b = b' := by
  rcases h with ⟨rfl, h0, h1, h2, h3⟩ | ⟨rfl, rfl, h3⟩ <;> rcases h' with ⟨rfl, k0, k1, k2, k3⟩ | ⟨rfl, rfl, k3⟩
  · refine ⟨?_, rfl⟩
    have a : ¬ m < m' := fun c => by have := k3 m h0 c; rw [h2] at this; cases this
    have b : ¬ m' < m := fun c => by have := h3 m' k0 c; rw [k2] at this; cases this
    omega
  · have := k3 m h0 h1; rw [h2] at this; cases this
  · have := h3 m' k0 k1; rw [k2] at this; cases this
  · exact ⟨rfl, rfl⟩
theorem ApartIs.exists_ (pa fa la pb fb lb G : Int) : ∃ m b, ApartIs pa fa la pb fb lb G m b := by
  by_cases h : ∃ k : Int, 0 ≤ k ∧ k ≤ G ∧ apB pa fa la pb fb lb k = true
  · obtain ⟨k, k0, k1, k2⟩ := h
    obtain ⟨N, n0, n1, n2, n3⟩ := least_int (fun k => apB pa fa la pb fb lb k = true) k k0 k2
    exact ⟨N, true, .inl ⟨rfl, n0, by omega, n2, fun j j0 j1 => by simpa using n3 j j0 j1⟩⟩
  · exact ⟨0, false, .inr ⟨rfl, rfl, fun k k0 k1 => by
      cases e : apB pa fa la pb fb lb k
      · rfl
      · exact absurd ⟨k, k0, k1, e⟩ h⟩⟩

/-- Apart of both packages returns the same. -/
theorem apart_same (pa fa la pb fb lb : Int) : ∃ (m : Int) (b : Bool) (c : Int),
    (∀ W, Calls Tryd.prog 31 #[tv pa fa la, tv pb fb lb] W fun e w' => e = .returned (.tuple #[.int .i64 m, .bool b, .int .i64 c]) ∧ Below W.heap.size W w') ∧
    (∀ W, Calls Tryd.prog 32 #[tv pa fa la, tv pb fb lb] W fun e w' => e = .returned (.tuple #[.int .i64 m, .bool b, .int .i64 c]) ∧ Below W.heap.size W w') := by
  by_cases h : TOk pa fa la ∧ TOk pb fb lb
  · obtain ⟨m, b, hm⟩ := ApartIs.exists_ pa fa la pb fb lb (Int.gcd pa pb)
    refine ⟨m, b, 0, fun W => (apart_ok pa fa la pb fb lb W h.1 h.2).mono ?_, fun W => (rapartx_ok pa fa la pb fb lb W h.1 h.2).mono ?_⟩
    all_goals
      rintro e w' ⟨m', b', hm', rfl, hb⟩
      obtain ⟨rfl, rfl⟩ := hm.unique hm'
      exact ⟨rfl, hb⟩
  · have h' : ¬ TOk pa fa la ∨ ¬ TOk pb fb lb := by
      by_cases k : TOk pa fa la
      · exact .inr fun c => h ⟨k, c⟩
      · exact .inl k
    exact ⟨0, false, 1, fun W => apart_bad pa fa la pb fb lb W h', fun W => rapartx_bad pa fa la pb fb lb W h'⟩
theorem checkApart_same (pa fa la pb fb lb m : Int) : ∃ (c : Int),
    (∀ W, Calls Tryd.prog 35 #[tv pa fa la, tv pb fb lb, .int .i64 m] W fun e w' => e = .returned (.int .i64 c) ∧ Below W.heap.size W w') ∧
    (∀ W, Calls Tryd.prog 36 #[tv pa fa la, tv pb fb lb, .int .i64 m] W fun e w' => e = .returned (.int .i64 c) ∧ Below W.heap.size W w') := by
  by_cases h : TOk pa fa la ∧ TOk pb fb lb
  · exact ⟨_, fun W => checkApart_ok pa fa la pb fb lb m W h.1 h.2, fun W => rcheckApart_ok pa fa la pb fb lb m W h.1 h.2⟩
  · have h' : ¬ TOk pa fa la ∨ ¬ TOk pb fb lb := by
      by_cases k : TOk pa fa la
      · exact .inr fun c => h ⟨k, c⟩
      · exact .inl k
    exact ⟨1, fun W => checkApart_bad pa fa la pb fb lb m W h', fun W => rcheckApart_bad pa fa la pb fb lb m W h'⟩
theorem part_same (p f l fr lg : Int) : ∃ (x y z c : Int),
    (∀ W, Calls Tryd.prog 33 #[tv p f l, .int .i64 fr, .int .i64 lg] W fun e w' => e = .returned (.tuple #[.agg #[.int .i64 x, .int .i64 y, .int .i64 z], .int .i64 c]) ∧ Below W.heap.size W w') ∧
    (∀ W, Calls Tryd.prog 34 #[tv p f l, .int .i64 fr, .int .i64 lg] W fun e w' => e = .returned (.tuple #[.agg #[.int .i64 x, .int .i64 y, .int .i64 z], .int .i64 c]) ∧ Below W.heap.size W w') := by
  by_cases h : TOk p f l ∧ partOk l fr lg
  · exact ⟨_, _, _, 0, fun W => part_ok p f l fr lg W h.1 h.2, fun W => rpart_ok p f l fr lg W h.1 h.2⟩
  · exact ⟨0, 0, 0, 1, fun W => part_bad p f l fr lg W h, fun W => rpart_bad p f l fr lg W h⟩

theorem Three.below {b : Nat} {x y z : Value} {W W' : World} (h : Three b x y z W) (hb : Below W.heap.size W W') (hlt : b < W.heap.size) : Three b x y z W' :=
  ⟨(hb.cell (p := ⟨b, 0, none⟩) hlt).trans h.1, (hb.cell (p := ⟨b, 1, none⟩) hlt).trans h.2.1, (hb.cell (p := ⟨b, 2, none⟩) hlt).trans h.2.2⟩
/-- What the last statement reads: both turns, and both parts. -/
abbrev LA (w : World) (pa fa la pb fb lb : Int) (g g' : Nat) (x y z : Int) (W : World) : Prop :=
  W.cell? ⟨g, 0, none⟩ = some (.int .i64 x) ∧ W.cell? ⟨g, 1, none⟩ = some (.int .i64 y) ∧ W.cell? ⟨g, 2, none⟩ = some (.int .i64 z) ∧
  W.cell? ⟨g', 0, none⟩ = some (.int .i64 x) ∧ W.cell? ⟨g', 1, none⟩ = some (.int .i64 y) ∧ W.cell? ⟨g', 2, none⟩ = some (.int .i64 z) ∧ g < W.heap.size ∧ g' < W.heap.size ∧ SS w pa fa la pb fb lb W
def LAd (w : World) (pa fa la pb fb lb : Int) (g g' : Nat) (x y z : Int) (W : World) : Prop := LA w pa fa la pb fb lb g g' x y z W
section
variable {w W W' : World} {pa fa la pb fb lb x y z : Int} {g g' : Nat}
theorem LAd.out (h : LAd w pa fa la pb fb lb g g' x y z W) : LA w pa fa la pb fb lb g g' x y z W := h
theorem LAd.below (h : LAd w pa fa la pb fb lb g g' x y z W) (hb : Below W.heap.size W W') : LAd w pa fa la pb fb lb g g' x y z W' := by
  obtain ⟨a0, a1, a2, b0, b1, b2, l1, l2, hs⟩ := h.out
  obtain ⟨c0, c1, c2⟩ := Three.below ⟨a0, a1, a2⟩ hb l1
  obtain ⟨d0, d1, d2⟩ := Three.below ⟨b0, b1, b2⟩ hb l2
  exact ⟨c0, c1, c2, d0, d1, d2, Nat.lt_of_lt_of_le l1 hb.size, Nat.lt_of_lt_of_le l2 hb.size, SS.below hs hb⟩
theorem LAd.bel (h : LAd w pa fa la pb fb lb g g' x y z W) : Below w.heap.size w W := by
  obtain ⟨_, _, _, _, _, _, _, _, hs⟩ := h.out
  exact hs.2.2.2.2.2.2.2
theorem LAd.drew (h : LAd w pa fa la pb fb lb g g' x y z W) : LAd w pa fa la pb fb lb g g' x y z W.drew := h.below (Below.refl _ _).drew
end

set_option maxHeartbeats 4000000 in
set_option maxRecDepth 100000 in
theorem turnParts_calls (hsan : ∀ W, Calls Tryd.prog 16 #[] W fun e w' => e = .returned (.bool true) ∧ Below W.heap.size W w')
    (pa fa la pb fb lb m fr lg : Int) (w : World) :
    Calls Tryd.prog 5 #[tv pa fa la, tv pb fb lb, .int .i64 m, .int .i64 fr, .int .i64 lg] w fun e w' => e = .returned (.bool true) ∧ Below w.heap.size w w' := by
  obtain ⟨am, ab, ac, A1, A2⟩ := apart_same pa fa la pb fb lb
  obtain ⟨cc, C1, C2⟩ := checkApart_same pa fa la pb fb lb m
  obtain ⟨x, y, z, pc, P1, P2⟩ := part_same pa fa la fr lg
  have HA1 := Lib.hid A1
  have HA2 := Lib.hid A2
  have HC1 := Lib.hid C1
  have HC2 := Lib.hid C2
  have HP1 := Lib.hid P1
  have HP2 := Lib.hid P2
  have HS := Lib.hid hsan
  clear A1 A2 C1 C2 P1 P2 hsan
  have S0 := Lib.hid (SS.new (w := w) (pa := pa) (fa := fa) (la := la) (pb := pb) (fb := fb) (lb := lb) 27 27)
  go_enter Tryd.func5, Tryd.ntmps5
  go_wp2_with fail
  refine (HA1.out _).mono ?_
  rintro e w1 ⟨rfl, h1⟩
  have S1 := SS.below S0.out h1
  clear h1 S0
  have S1' := Lib.hid S1
  obtain ⟨t0, t1, t2, t3, t4, t5, t6, _⟩ := S1
  go_wp2_with fail
  refine (HA2.out _).mono ?_
  rintro e w2 ⟨rfl, h2⟩
  have S2 := SS.below S1'.out h2
  clear h2 S1' t0 t1 t2 t3 t4 t5 t6
  have S2' := Lib.hid S2
  obtain ⟨t0, t1, t2, t3, t4, t5, t6, _⟩ := S2
  go_wp2_with fail
  refine (HP1.out _).mono ?_
  rintro e w3 ⟨rfl, h3⟩
  have S3 := SS.below S2'.out h3
  clear h3 S2' t0 t1 t2 t3 t4 t5 t6
  have S3' := Lib.hid S3
  obtain ⟨t0, t1, t2, t3, t4, t5, t6, _⟩ := S3
  have t7 : w.heap.size < w3.heap.size := by omega
  go_wp2_with fail
  refine (HP2.out _).mono ?_
  rintro e w4 ⟨rfl, h4⟩
  have L0 : LAd w pa fa la pb fb lb w3.heap.size w4.heap.size x y z (w4.alloc (.cells #[.int .i64 x, .int .i64 y, .int .i64 z] 27)) := by
    have z4 : w3.heap.size < w4.heap.size := by have := h4.size; simp at this; omega
    have T3 : Three w3.heap.size (.int .i64 x) (.int .i64 y) (.int .i64 z) (w3.alloc (.cells #[.int .i64 x, .int .i64 y, .int .i64 z] 27)) := ⟨by simp [go_sem], by simp [go_sem], by simp [go_sem]⟩
    obtain ⟨a0, a1, a2⟩ := Three.below (Three.below T3 h4 (by simp)) ((Below.refl _ _).alloc (Nat.le_refl _) (.cells #[.int .i64 x, .int .i64 y, .int .i64 z] 27)) z4
    exact ⟨a0, a1, a2, by simp [go_sem], by simp [go_sem], by simp [go_sem], by simp; omega, by simp, SS.alloc (SS.below (SS.alloc S3'.out _) h4) _⟩
  clear h4 S3' t0 t1 t2 t3 t4 t5 t6 t7
  have L0' := Lib.hid L0
  obtain ⟨a0, a1, a2, b0, b1, b2, l1, l2, t0, t1, t2, t3, t4, t5, t6, _⟩ := L0
  go_wp2_with fail
  go_region_held3 (LA w pa fa la pb fb lb w3.heap.size w4.heap.size x y z) ((refine LAd.out ?_; with_reducible (first | exact L7 | exact L6 | exact L5 | exact LAd.drew L0'.out)))
    (first
      | (go_at_call 16; refine (HS.out _).mono ?_; rintro e w5 ⟨rfl, h5⟩; have L5 : LAd w pa fa la pb fb lb w3.heap.size w4.heap.size x y z w5 := LAd.below (LAd.drew L0'.out) h5; clear h5)
      | (go_at_call 35; refine (HC1.out _).mono ?_; rintro e w6 ⟨rfl, h6⟩; have L6 : LAd w pa fa la pb fb lb w3.heap.size w4.heap.size x y z w6 := LAd.below L5 h6; clear h6)
      | (go_at_call 36; refine (HC2.out _).mono ?_; rintro e w7 ⟨rfl, h7⟩; have L7 : LAd w pa fa la pb fb lb w3.heap.size w4.heap.size x y z w7 := LAd.below L6 h7; clear h7))
  go_wp2_with fail
  go_ret
  exact ⟨rfl, L7.bel⟩
end Go.Proofs.YtlhgpeelenelbaaDoor
