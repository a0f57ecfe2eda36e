/- The calls of the chapter's examples, at their values: sets, turns, texts. -/
import Derived.Test.YtcdodfehnkgjdaaGreatDoorL1
import Derived.Test.YtcdodfehnkgjdaaGreatDoorB3
import Derived.Test.YtcdodfehnkgjdaaGreatDoorE7
import Derived.Test.YtcdodfehnkgjdaaGreatDoorFF
import Derived.Test.YtcdodfehnkgjdaaGreatDoorHI
namespace Go.Proofs.YtcdodfehnkgjdaaGreatDoor
open Go.RowKit

theorem tA : TOk 10 2 3 := by unfold TOk; omega
theorem tB : TOk 15 5 2 := by unfold TOk; omega
theorem tC : TOk 15 4 2 := by unfold TOk; omega
theorem checkIs_A : CheckIs [(10, 2, 3)] [] 0 := .inr (.inl ⟨by decide, by decide, by simp [AllOk, TOk], rfl⟩)
theorem checkIs_S : CheckIs [(10, 2, 3)] [(4, 6)] 0 := .inr (.inl ⟨by decide, by decide, by simp [AllOk, TOk, SOk], rfl⟩)
theorem checkIs_P : CheckIs [(6, 0, 1), (6, 3, 1)] [] 0 := .inr (.inl ⟨by decide, by decide, by simp [AllOk, TOk], rfl⟩)

theorem san_A (W : World) : Calls Tryz.prog 14 #[] W fun e w' => e = .returned (tv 10 2 3) ∧ Below W.heap.size W w' := by
  go_enter Tryz.func14, Tryz.ntmps14
  go_wp2_with fail
  refine bodyPost_ret (v := tv 10 2 3) (by simp [results, Tryz.results14, go_sem]) rfl ⟨rfl, ?_⟩
  exact (Below.refl W.heap.size W).alloc (Nat.le_refl _) _
theorem san_B (W : World) : Calls Tryz.prog 17 #[] W fun e w' => e = .returned (tv 15 5 2) ∧ Below W.heap.size W w' := by
  go_enter Tryz.func17, Tryz.ntmps17
  go_wp2_with fail
  refine bodyPost_ret (v := tv 15 5 2) (by simp [results, Tryz.results17, go_sem]) rfl ⟨rfl, ?_⟩
  exact (Below.refl W.heap.size W).alloc (Nat.le_refl _) _
theorem san_next (v : Value) (W : World) (h : RM W.heap.size v [(10, 2, 3)] [] W) : Calls Tryz.prog 15 #[v, .int .i64 5] W fun e w' => e = .returned (.tuple #[.int .i64 12, .int .i64 0]) ∧ Below W.heap.size W w' :=
  next_any v [(10, 2, 3)] [] 5 0 0 12 0 W h checkIs_A (.inr (.inl ⟨rfl, by unfold MOk; omega, rfl⟩)) (.inr (.inl ⟨rfl, by decide, by decide, rfl⟩))
theorem san_first1 (W : World) : Calls Tryz.prog 16 #[tv 10 2 3, tv 15 5 2] W fun e w' => e = .returned (.tuple #[.int .i64 0, .int .i64 5]) ∧ Below W.heap.size W w' :=
  (first_ok 10 2 3 15 5 2 W tA tB).mono fun e w' ⟨N, c, h, he, hb⟩ => by
    obtain ⟨rfl, rfl⟩ := h.unique (N' := 0) (c' := 5) (.inr ⟨rfl, rfl, fun m h0 hh => by obtain ⟨h1, h2⟩ := hh; unfold inT at h1 h2; omega⟩)
    exact ⟨he, hb⟩
theorem san_first2 (W : World) : Calls Tryz.prog 16 #[tv 10 2 3, tv 15 4 2] W fun e w' => e = .returned (.tuple #[.int .i64 4, .int .i64 0]) ∧ Below W.heap.size W w' :=
  (first_ok 10 2 3 15 4 2 W tA tC).mono fun e w' ⟨N, c, h, he, hb⟩ => by
    obtain ⟨rfl, rfl⟩ := h.unique (N' := 4) (c' := 0) (.inl ⟨rfl, by omega, by omega, by unfold both inT; omega, fun m h0 h4 hh => by obtain ⟨h1, h2⟩ := hh; unfold inT at h1 h2; omega⟩)
    exact ⟨he, hb⟩
theorem san_apart (W : World) : Calls Tryz.prog 18 #[tv 10 2 3, tv 15 5 2] W fun e w' => e = .returned (.tuple #[.int .i64 5, .bool true, .int .i64 0]) ∧ Below W.heap.size W w' :=
  (apart_ok 10 2 3 15 5 2 W tA tB).mono fun e w' ⟨m, b, h, he, hb⟩ => by
    have hk : ∀ k : Int, 0 ≤ k → k < 5 → apB 10 2 3 15 5 2 k = false := fun k h0 h5 => by
      have : k = 0 ∨ k = 1 ∨ k = 2 ∨ k = 3 ∨ k = 4 := by omega
      rcases this with rfl | rfl | rfl | rfl | rfl <;> decide
    obtain ⟨rfl, rfl⟩ := h.unique (m' := 5) (b' := true) (.inl ⟨rfl, by omega, by decide, by decide, hk⟩)
    exact ⟨he, hb⟩
theorem san_often (W : World) : Calls Tryz.prog 19 #[tv 10 2 3, tv 15 4 2] W fun e w' => e = .returned (.tuple #[.int .i64 1, .int .i64 30, .int .i64 0]) ∧ Below W.heap.size W w' :=
  (often_ok 10 2 3 15 4 2 W tA tC).mono fun e w' ⟨he, hb⟩ => ⟨he.trans (by rw [show oftenF 2 3 4 2 (Int.gcd 10 15) (Int.gcd 10 15) = 1 by decide]; rfl), hb⟩
theorem san_checkApart (W : World) : Calls Tryz.prog 26 #[tv 10 2 3, tv 15 5 2, .int .i64 10] W fun e w' => e = .returned (.int .i64 8) ∧ Below W.heap.size W w' :=
  (checkApart_ok 10 2 3 15 5 2 10 W tA tB).mono fun e w' ⟨he, hb⟩ => ⟨he.trans (by rw [show apB 10 2 3 15 5 2 10 = false by decide]; rfl), hb⟩
theorem san_spans (v : Value) (W : World) (h : RM W.heap.size v [(10, 2, 3)] [(4, 6)] W) : Calls Tryz.prog 20 #[v, sv2 0 13] W fun e w' => ∃ v', e = .returned (.tuple #[v', .int .i64 0]) ∧ RS w'.heap.size v' [(2, 6), (12, 13)] w' ∧ Below W.heap.size W w' :=
  (spans_any v [(10, 2, 3)] [(4, 6)] 0 13 0 0 W h checkIs_S (.inr (.inl ⟨rfl, by unfold SOk; omega, rfl⟩))).mono fun e w' ⟨v', l, c, he, hr, hb, hl⟩ => by
    rw [show spn (setB (lotsOf [(10, 2, 3)] [(4, 6)])) 0 ((13 : Int) + 1 - 0).toNat = [(2, 6), (12, 13)] by decide] at hl
    rcases hl with ⟨h, _⟩ | ⟨_, _, rfl, rfl⟩ | ⟨_, h, _⟩
    · exact absurd rfl h
    · exact ⟨v', he, hr, hb⟩
    · simp at h
theorem san_count (v : Value) (W : World) (h : RM W.heap.size v [(10, 2, 3)] [(4, 6)] W) : Calls Tryz.prog 21 #[v, sv2 0 13] W fun e w' => e = .returned (.tuple #[.int .i64 7, .int .i64 0]) ∧ Below W.heap.size W w' :=
  count_any v [(10, 2, 3)] [(4, 6)] 0 13 0 0 7 W h checkIs_S (.inr (.inl ⟨rfl, by unfold SOk; omega, rfl⟩)) (.inr ⟨rfl, by decide⟩)
theorem rep_no1 : ¬ RepB (roundOf [(6, 0, 1), (6, 3, 1)]) 1 := by unfold RepB; decide
theorem rep_no2 : ¬ RepB (roundOf [(6, 0, 1), (6, 3, 1)]) 2 := by unfold RepB; decide
theorem rep_yes3 : RepB (roundOf [(6, 0, 1), (6, 3, 1)]) 3 := by unfold RepB; decide
theorem over_no : ¬ Over [(6, 0, 1), (6, 3, 1)] := fun ⟨k, h1, h2⟩ => by
  have : k = 0 ∨ k = 1 ∨ k = 2 := by simp at h1; omega
  rcases this with rfl | rfl | rfl <;> exact absurd h2 (by decide)
theorem san_period (v : Value) (W : World) (h : RM W.heap.size v [(6, 0, 1), (6, 3, 1)] [] W) : Calls Tryz.prog 22 #[v] W fun e w' => e = .returned (.tuple #[.int .i64 3, .int .i64 0]) ∧ Below W.heap.size W w' :=
  (period_main v _ W h checkIs_P (by decide)).mono fun e w' ⟨h, hb⟩ => by
    rcases h with ⟨h, _⟩ | ⟨_, _, _, p, p1, p2, p3, p4, he⟩
    · exact absurd h over_no
    · have a1 : p ≠ 1 := fun c => rep_no1 (c ▸ p3)
      have a2 : p ≠ 2 := fun c => rep_no2 (c ▸ p3)
      have a3 : ¬ 3 < p := fun c => p4 3 (by omega) c rep_yes3
      obtain rfl : p = 3 := by omega
      exact ⟨he, hb⟩
theorem san_print (v : Value) (W : World) (h : RM W.heap.size v [(10, 2, 3)] [(4, 6)] W) : Calls Tryz.prog 23 #[v] W fun e w' => e = .returned (.tuple #[.string ⟨#[101, 118, 101, 114, 121, 32, 49, 48, 32, 102, 114, 111, 109, 32, 50, 32, 102, 111, 114, 32, 51, 59, 10, 98, 101, 116, 119, 101, 101, 110, 32, 52, 32, 97, 110, 100, 32, 54, 59, 10]⟩, .int .i64 0]) ∧ Below W.heap.size W w' :=
  (print_ok v [(10, 2, 3)] [(4, 6)] W h checkIs_S ⟨fun t ht => by simp at ht; subst ht; exact ⟨itoaOk_small _ _ _ (by decide) (by decide), itoaOk_small _ _ _ (by decide) (by decide), itoaOk_small _ _ _ (by decide) (by decide)⟩,
    fun s hs => by simp at hs; subst hs; exact ⟨itoaOk_small _ _ _ (by decide) (by decide), itoaOk_small _ _ _ (by decide) (by decide)⟩⟩).mono fun e w' ⟨he, hb⟩ => ⟨he.trans (by
      rw [show (textTs [(10, 2, 3)] ++ textSs [(4, 6)]).toArray = #[101, 118, 101, 114, 121, 32, 49, 48, 32, 102, 114, 111, 109, 32, 50, 32, 102, 111, 114, 32, 51, 59, 10, 98, 101, 116, 119, 101, 101, 110, 32, 52, 32, 97, 110, 100, 32, 54, 59, 10] by kernel_rfl]), hb⟩
def txt1 : ByteArray := ⟨#[101, 118, 101, 114, 121, 32, 49, 48, 32, 102, 114, 111, 109, 32, 49, 48, 32, 102, 111, 114, 32, 51, 59]⟩
def txt2 : ByteArray := ⟨#[98, 101, 116, 119, 101, 101, 110, 32, 53, 48, 32, 97, 110, 100, 32, 52, 59]⟩
theorem turnF_txt1 : (turnF txt1.data.toList (0, false)).2 = (15, true) := by kernel_rfl
theorem spanF_txt2 : (spanF txt2.data.toList (0, false)).2 = (16, true) := by kernel_rfl
theorem san_parse1 (W : World) : Calls Tryz.prog 24 #[.string ⟨#[101, 118, 101, 114, 121, 32, 49, 48, 32, 102, 114, 111, 109, 32, 49, 48, 32, 102, 111, 114, 32, 51, 59]⟩] W (ParseFail 15 W) :=
  parse_turn_fails txt1 15 W (by decide) (by decide) (by decide) turnF_txt1
theorem san_parse2 (W : World) : Calls Tryz.prog 24 #[.string ⟨#[98, 101, 116, 119, 101, 101, 110, 32, 53, 48, 32, 97, 110, 100, 32, 52, 59]⟩] W (ParseFail 16 W) :=
  parse_span_fails txt2 16 W (by decide) (by decide) (by decide) spanF_txt2
end Go.Proofs.YtcdodfehnkgjdaaGreatDoor

/- Contract of sanity. -/
namespace Go.Proofs.YtcdodfehnkgjdaaGreatDoor
open Go.RowKit

/-- The set of the examples, at blocks n to n + 2. -/
def SanD (n : Nat) (w W : World) : Prop :=
  W.cell? ⟨n + 1 + 1, 0, none⟩ = some (.slice (some ⟨n, 0, none⟩) 1 1) ∧ W.cell? ⟨n + 1 + 1, 1, none⟩ = some (.slice (some ⟨n + 1, 0, none⟩) 1 1) ∧ n + 1 + 1 < W.heap.size ∧
  RM W.heap.size (.agg #[.slice (some ⟨n, 0, none⟩) 1 1, .slice (some ⟨n + 1, 0, none⟩) 1 1]) [(10, 2, 3)] [(4, 6)] W ∧ Below w.heap.size w W ∧ w.heap.size ≤ n
theorem SanD.below {n : Nat} {w W W' : World} (h : SanD n w W) (hb : Below W.heap.size W W') : SanD n w W' := by
  obtain ⟨h1, h2, h3, h4, h5, h6⟩ := h
  have hs := hb.size
  exact ⟨(hb.cell (p := ⟨n + 1 + 1, 0, none⟩) h3).trans h1, (hb.cell (p := ⟨n + 1 + 1, 1, none⟩) h3).trans h2, by omega, h4.up hs hb, h5.trans (hb.mono (by omega)), h6⟩
theorem SanD.alloc {n : Nat} {w W : World} (h : SanD n w W) (o : Obj) : SanD n w (W.alloc o) := h.below ((Below.refl _ _).alloc (Nat.le_refl _) o)
theorem SanD.drew {n : Nat} {w W : World} (h : SanD n w W) : SanD n w W.drew := h.below (Below.refl _ _).drew
theorem rm_one (W : World) (p f l : Int) : RM (W.alloc (.cells #[.int .i64 p, .int .i64 f, .int .i64 l] 42)).heap.size (.agg #[.slice (some ⟨W.heap.size, 0, none⟩) 1 1, .slice none 0 0]) [(p, f, l)] [] (W.alloc (.cells #[.int .i64 p, .int .i64 f, .int .i64 l] 42)) := by
  refine ⟨_, _, _, _, _, _, rfl, ⟨_, _, rfl, by simp, fun _ => ⟨_, _, rfl, by simp, fun k p' f' l' hk => ?_⟩⟩, rs_nil _ _⟩
  match k, hk with
  | 0, hk => simp at hk; obtain ⟨rfl, rfl, rfl⟩ := hk; simp [go_sem]
  | k + 1, hk => simp at hk
theorem rm_two (W : World) (p f l p1 f1 l1 : Int) : RM (W.alloc (.cells #[.int .i64 p, .int .i64 f, .int .i64 l, .int .i64 p1, .int .i64 f1, .int .i64 l1] 42)).heap.size (.agg #[.slice (some ⟨W.heap.size, 0, none⟩) 2 2, .slice none 0 0]) [(p, f, l), (p1, f1, l1)] [] (W.alloc (.cells #[.int .i64 p, .int .i64 f, .int .i64 l, .int .i64 p1, .int .i64 f1, .int .i64 l1] 42)) := by
  refine ⟨_, _, _, _, _, _, rfl, ⟨_, _, rfl, by simp, fun _ => ⟨_, _, rfl, by simp, fun k p' f' l' hk => ?_⟩⟩, rs_nil _ _⟩
  match k, hk with
  | 0, hk => simp at hk; obtain ⟨rfl, rfl, rfl⟩ := hk; simp [go_sem]
  | 1, hk => simp at hk; obtain ⟨rfl, rfl, rfl⟩ := hk; simp [go_sem]
  | k + 2, hk => simp at hk
theorem rs_two (W : World) (a b c d : Int) : RS (W.alloc (.cells #[.int .i64 a, .int .i64 b, .int .i64 c, .int .i64 d] 45)).heap.size (.slice (some ⟨W.heap.size, 0, none⟩) 2 2) [(a, b), (c, d)] (W.alloc (.cells #[.int .i64 a, .int .i64 b, .int .i64 c, .int .i64 d] 45)) := by
  refine ⟨_, _, rfl, by simp, fun _ => ⟨_, _, rfl, by simp, fun k p' f' hk => ?_⟩⟩
  match k, hk with
  | 0, hk => simp at hk; obtain ⟨rfl, rfl⟩ := hk; simp [go_sem]
  | 1, hk => simp at hk; obtain ⟨rfl, rfl⟩ := hk; simp [go_sem]
  | k + 2, hk => simp at hk
theorem sanD_new (w w1 : World) (h : Below w.heap.size w w1) (hs : w.heap.size ≤ w1.heap.size) : SanD w1.heap.size w (((w1.alloc (.cells #[.int .i64 10, .int .i64 2, .int .i64 3] 42)).alloc (.cells #[.int .i64 4, .int .i64 6] 45)).alloc (.cells #[.slice (some ⟨w1.heap.size, 0, none⟩) 1 1, .slice (some ⟨w1.heap.size + 1, 0, none⟩) 1 1] 25)) := by
  have hT := (rm_one w1 10 2 3)
  refine ⟨by simp [go_sem], by simp [go_sem], by simp, ⟨_, _, _, _, _, _, rfl, ?_, ?_⟩, ((h.alloc hs _).alloc (by simp; omega) _).alloc (by simp; omega) _, hs⟩
  · obtain ⟨A, n, c, A', n', c', e, h1, -⟩ := hT
    obtain ⟨⟨rfl, rfl, rfl⟩, -⟩ := by simpa using e
    exact h1.up (by simp) (((Below.refl _ _).alloc (Nat.le_refl _) _).alloc (by simp) _)
  · refine ⟨_, _, rfl, by simp, fun _ => ⟨_, _, rfl, by simp, fun k p' f' hk => ?_⟩⟩
    match k, hk with
    | 0, hk =>
      simp at hk; obtain ⟨rfl, rfl⟩ := hk
      have z : w1.heap.size + 1 < ((w1.alloc (.cells #[.int .i64 10, .int .i64 2, .int .i64 3] 42)).alloc (.cells #[.int .i64 4, .int .i64 6] 45)).heap.size := by simp
      exact ⟨by rw [World.cell?_alloc_lt _ _ _ z]; simp [go_sem], by rw [World.cell?_alloc_lt _ _ _ z]; simp [go_sem]⟩
    | k + 1, hk => simp at hk

set_option maxHeartbeats 4000000 in
set_option maxRecDepth 1000000 in
theorem sanity_any (w : World) : Calls Tryz.prog 5 #[] w fun e w' => e = .returned (.bool true) ∧ Below w.heap.size w w' := by
  go_enter Tryz.func5, Tryz.ntmps5
  go_wp2_with fail
  refine (san_A _).mono ?_
  rintro e w1 ⟨rfl, h1⟩
  have hn : w.heap.size ≤ w1.heap.size := h1.size
  have S0 := sanD_new w w1 h1 hn
  go_wp2_with fail
  obtain ⟨W0, hW0⟩ : ∃ W0, (((w1.alloc (.cells #[.int .i64 10, .int .i64 2, .int .i64 3] 42)).alloc (.cells #[.int .i64 4, .int .i64 6] 45)).alloc (.cells #[.slice (some ⟨w1.heap.size, 0, none⟩) 1 1, .slice (some ⟨w1.heap.size + 1, 0, none⟩) 1 1] 25)) = W0 := ⟨_, rfl⟩
  rw [hW0] at S0 ⊢
  obtain ⟨n, hn'⟩ : ∃ n, w1.heap.size = n := ⟨_, rfl⟩
  rw [hn'] at S0 hn ⊢
  have S := Lib.hid S0
  clear S0 hW0 h1 hn hn' w1
  refine (san_A _).mono ?_
  rintro e w2 ⟨rfl, h⟩
  have S := Lib.hid (S.out.below h)
  clear h
  go_wp2_with fail
  refine (san_next _ _ (rm_one _ 10 2 3)).mono ?_
  rintro e w3 ⟨rfl, h⟩
  have S := Lib.hid ((S.out.alloc _).below h)
  clear h
  go_wp2_with fail
  refine (san_A _).mono ?_
  rintro e w4 ⟨rfl, h⟩
  have S := Lib.hid (S.out.below h)
  clear h
  go_wp2_with fail
  refine (san_B _).mono ?_
  rintro e w5 ⟨rfl, h⟩
  have S := Lib.hid (S.out.below h)
  clear h
  go_wp2_with fail
  refine (san_first1 _).mono ?_
  rintro e w6 ⟨rfl, h⟩
  have S := Lib.hid (S.out.below h)
  clear h
  go_wp2_with fail
  refine (san_A _).mono ?_
  rintro e w7 ⟨rfl, h⟩
  have S := Lib.hid (S.out.below h)
  clear h
  go_wp2_with fail
  refine (san_B _).mono ?_
  rintro e w8 ⟨rfl, h⟩
  have S := Lib.hid (S.out.below h)
  clear h
  go_wp2_with fail
  refine (san_apart _).mono ?_
  rintro e w9 ⟨rfl, h⟩
  have S := Lib.hid (S.out.below h)
  clear h
  go_wp2_with fail
  refine (san_A _).mono ?_
  rintro e w10 ⟨rfl, h⟩
  have S := Lib.hid (S.out.below h)
  clear h
  go_wp2_with fail
  refine (san_first2 _).mono ?_
  rintro e w11 ⟨rfl, h⟩
  have S := Lib.hid (S.out.below h)
  clear h
  go_wp2_with fail
  refine (san_A _).mono ?_
  rintro e w12 ⟨rfl, h⟩
  have S := Lib.hid (S.out.below h)
  clear h
  go_wp2_with fail
  refine (san_often _).mono ?_
  rintro e w13 ⟨rfl, h⟩
  have S := Lib.hid (S.out.below h)
  have c0 := S.out.1
  have c1 := S.out.2.1
  clear h
  go_wp2_with fail
  refine (san_spans _ _ S.out.2.2.2.1).mono ?_
  rintro e w14 ⟨vs, rfl, hv, h⟩
  have S := Lib.hid (S.out.below h)
  clear h c0 c1
  have c0 := S.out.1
  have c1 := S.out.2.1
  have V := Lib.hid hv
  clear hv
  go_wp2_with fail
  refine (san_count _ _ S.out.2.2.2.1).mono ?_
  rintro e w15 ⟨rfl, h⟩
  have S := Lib.hid (S.out.below h)
  have V := Lib.hid (V.out.up h.size h)
  clear h c0 c1
  go_wp2_with fail
  refine (san_period _ _ (rm_two _ 6 0 1 6 3 1)).mono ?_
  rintro e w16 ⟨rfl, h⟩
  have S := Lib.hid ((S.out.alloc _).below h)
  have V := Lib.hid ((V.out.up (by simp) ((Below.refl _ _).alloc (Nat.le_refl _) _)).up h.size h)
  clear h
  have c0 := S.out.1
  have c1 := S.out.2.1
  go_wp2_with fail
  refine (san_print _ _ S.out.2.2.2.1).mono ?_
  rintro e w17 ⟨rfl, h⟩
  have S := Lib.hid (S.out.below h)
  have V := Lib.hid (V.out.up h.size h)
  clear h c0 c1
  go_wp2_with fail
  refine (san_parse1 _).mono ?_
  rintro e w18 ⟨rfl, h⟩
  have S := Lib.hid (S.out.below h)
  have V := Lib.hid (V.out.up h.size h)
  clear h
  go_wp2_with fail
  refine (san_parse2 _).mono ?_
  rintro e w19 ⟨rfl, h⟩
  have S := Lib.hid ((S.out.alloc _).below h)
  have V := Lib.hid ((V.out.up (by simp) ((Below.refl _ _).alloc (Nat.le_refl _) _)).up h.size h)
  clear h
  go_wp2_with fail
  have R2 : RS ((w19.alloc (.cells #[.slice none 0 0, .slice none 0 0] 25)).alloc (.cells #[.int .i64 2, .int .i64 6, .int .i64 12, .int .i64 13] 45)).heap.size (.slice (some ⟨w19.heap.size + 1, 0, none⟩) 2 2) [(2, 6), (12, 13)] ((w19.alloc (.cells #[.slice none 0 0, .slice none 0 0] 25)).alloc (.cells #[.int .i64 2, .int .i64 6, .int .i64 12, .int .i64 13] 45)) := by
    have := rs_two (w19.alloc (.cells #[.slice none 0 0, .slice none 0 0] 25)) 2 6 12 13
    simpa only [World.size_alloc] using this
  refine (sameSpans_any vs _ [(2, 6), (12, 13)] [(2, 6), (12, 13)] _ (V.out.up (by simp <;> omega) (((Below.refl _ _).alloc (Nat.le_refl _) _).alloc (by simp) _)) R2).mono ?_
  rintro e w20 ⟨he, h⟩
  rw [show decide ([((2 : Int), (6 : Int)), (12, 13)] = [(2, 6), (12, 13)]) = true by decide] at he
  subst he
  have S := Lib.hid (((S.out.alloc _).alloc _).below h)
  clear h V R2
  go_wp2_with fail
  refine (san_A _).mono ?_
  rintro e w21 ⟨rfl, h⟩
  have S := Lib.hid (S.out.below h)
  clear h
  go_wp2_with fail
  refine (san_B _).mono ?_
  rintro e w22 ⟨rfl, h⟩
  have S := Lib.hid (S.out.below h)
  clear h
  go_wp2_with fail
  refine (san_checkApart _).mono ?_
  rintro e w23 ⟨rfl, h⟩
  have S := Lib.hid (S.out.below h)
  clear h
  go_wp2_with fail
  go_ret
  exact ⟨rfl, S.out.2.2.2.2.1⟩
end Go.Proofs.YtcdodfehnkgjdaaGreatDoor
