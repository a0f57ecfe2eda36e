/- The calls of the chapter's examples, at their values: sets, turns, texts. -/
import Derived.Test.YtlhgpeelenelbaaDoorL1
import Derived.Test.YtlhgpeelenelbaaDoorB3
import Derived.Test.YtlhgpeelenelbaaDoorE7
import Derived.Test.YtlhgpeelenelbaaDoorF3
import Derived.Test.YtlhgpeelenelbaaDoorH7
namespace Go.Proofs.YtlhgpeelenelbaaDoor
open Go.RowKit

theorem tA : TOk 10 2 3 := by unfold TOk; omega
theorem tB : TOk 15 5 2 := by unfold TOk; omega
theorem tC : TOk 15 4 2 := by unfold TOk; omega
theorem checkIs_A : CheckIs [(10, 2, 3)] [] 0 := .inr (.inl ⟨by decide, by decide, by simp [AllOk, TOk], rfl⟩)
theorem checkIs_S : CheckIs [(10, 2, 3)] [(4, 6)] 0 := .inr (.inl ⟨by decide, by decide, by simp [AllOk, TOk, SOk], rfl⟩)
theorem checkIs_P : CheckIs [(6, 0, 1), (6, 3, 1)] [] 0 := .inr (.inl ⟨by decide, by decide, by simp [AllOk, TOk], rfl⟩)

theorem san_A (W : World) : Calls Tryd.prog 65 #[] W fun e w' => e = .returned (tv 10 2 3) ∧ Below W.heap.size W w' := by
  go_enter Tryd.func65, Tryd.ntmps65
  go_wp2_with fail
  refine bodyPost_ret (v := tv 10 2 3) (by simp [results, Tryd.results65, go_sem]) rfl ⟨rfl, ?_⟩
  exact (Below.refl W.heap.size W).alloc (Nat.le_refl _) _
theorem san_B (W : World) : Calls Tryd.prog 66 #[] W fun e w' => e = .returned (tv 15 5 2) ∧ Below W.heap.size W w' := by
  go_enter Tryd.func66, Tryd.ntmps66
  go_wp2_with fail
  refine bodyPost_ret (v := tv 15 5 2) (by simp [results, Tryd.results66, go_sem]) rfl ⟨rfl, ?_⟩
  exact (Below.refl W.heap.size W).alloc (Nat.le_refl _) _
theorem san_next (v : Value) (W : World) (h : RM W.heap.size v [(10, 2, 3)] [] W) : Calls Tryd.prog 19 #[v, .int .i64 5] W fun e w' => e = .returned (.tuple #[.int .i64 12, .int .i64 0]) ∧ Below W.heap.size W w' :=
  next_any v [(10, 2, 3)] [] 5 0 0 12 0 W h checkIs_A (.inr (.inl ⟨rfl, by unfold MOk; omega, rfl⟩)) (.inr (.inl ⟨rfl, by decide, by decide, rfl⟩))
theorem san_first1 (W : World) : Calls Tryd.prog 27 #[tv 10 2 3, tv 15 5 2] W fun e w' => e = .returned (.tuple #[.int .i64 0, .int .i64 5]) ∧ Below W.heap.size W w' :=
  (first_ok 10 2 3 15 5 2 W tA tB).mono fun e w' ⟨N, c, h, he, hb⟩ => by
    obtain ⟨rfl, rfl⟩ := h.unique (N' := 0) (c' := 5) (.inr ⟨rfl, rfl, fun m h0 hh => by obtain ⟨h1, h2⟩ := hh; unfold inT at h1 h2; omega⟩)
    exact ⟨he, hb⟩
theorem san_first2 (W : World) : Calls Tryd.prog 27 #[tv 10 2 3, tv 15 4 2] W fun e w' => e = .returned (.tuple #[.int .i64 4, .int .i64 0]) ∧ Below W.heap.size W w' :=
  (first_ok 10 2 3 15 4 2 W tA tC).mono fun e w' ⟨N, c, h, he, hb⟩ => by
    obtain ⟨rfl, rfl⟩ := h.unique (N' := 4) (c' := 0) (.inl ⟨rfl, by omega, by omega, by unfold both inT; omega, fun m h0 h4 hh => by obtain ⟨h1, h2⟩ := hh; unfold inT at h1 h2; omega⟩)
    exact ⟨he, hb⟩
theorem san_apart (W : World) : Calls Tryd.prog 31 #[tv 10 2 3, tv 15 5 2] W fun e w' => e = .returned (.tuple #[.int .i64 5, .bool true, .int .i64 0]) ∧ Below W.heap.size W w' :=
  (apart_ok 10 2 3 15 5 2 W tA tB).mono fun e w' ⟨m, b, h, he, hb⟩ => by
    have hk : ∀ k : Int, 0 ≤ k → k < 5 → apB 10 2 3 15 5 2 k = false := fun k h0 h5 => by
      have : k = 0 ∨ k = 1 ∨ k = 2 ∨ k = 3 ∨ k = 4 := by omega
      rcases this with rfl | rfl | rfl | rfl | rfl <;> decide
    obtain ⟨rfl, rfl⟩ := h.unique (m' := 5) (b' := true) (.inl ⟨rfl, by omega, by decide, by decide, hk⟩)
    exact ⟨he, hb⟩
theorem san_often (W : World) : Calls Tryd.prog 29 #[tv 10 2 3, tv 15 4 2] W fun e w' => e = .returned (.tuple #[.int .i64 1, .int .i64 30, .int .i64 0]) ∧ Below W.heap.size W w' :=
  (often_ok 10 2 3 15 4 2 W tA tC).mono fun e w' ⟨he, hb⟩ => ⟨he.trans (by rw [show oftenF 2 3 4 2 (Int.gcd 10 15) (Int.gcd 10 15) = 1 by decide]; rfl), hb⟩
theorem san_checkApart (W : World) : Calls Tryd.prog 35 #[tv 10 2 3, tv 15 5 2, .int .i64 10] W fun e w' => e = .returned (.int .i64 8) ∧ Below W.heap.size W w' :=
  (checkApart_ok 10 2 3 15 5 2 10 W tA tB).mono fun e w' ⟨he, hb⟩ => ⟨he.trans (by rw [show apB 10 2 3 15 5 2 10 = false by decide]; rfl), hb⟩
theorem san_spans (v : Value) (W : World) (h : RM W.heap.size v [(10, 2, 3)] [(4, 6)] W) : Calls Tryd.prog 38 #[v, sv2 0 13] W fun e w' => ∃ v', e = .returned (.tuple #[v', .int .i64 0]) ∧ RS w'.heap.size v' [(2, 6), (12, 13)] w' ∧ Below W.heap.size W w' :=
  (spans_any v [(10, 2, 3)] [(4, 6)] 0 13 0 0 W h checkIs_S (.inr (.inl ⟨rfl, by unfold SOk; omega, rfl⟩))).mono fun e w' ⟨v', l, c, he, hr, hb, hl⟩ => by
    rw [show spn (setB (lotsOf [(10, 2, 3)] [(4, 6)])) 0 ((13 : Int) + 1 - 0).toNat = [(2, 6), (12, 13)] by decide] at hl
    rcases hl with ⟨h, _⟩ | ⟨_, _, rfl, rfl⟩ | ⟨_, h, _⟩
    · exact absurd rfl h
    · exact ⟨v', he, hr, hb⟩
    · simp at h
theorem san_count (v : Value) (W : World) (h : RM W.heap.size v [(10, 2, 3)] [(4, 6)] W) : Calls Tryd.prog 56 #[v, sv2 0 13] W fun e w' => e = .returned (.tuple #[.int .i64 7, .int .i64 0]) ∧ Below W.heap.size W w' :=
  count_any v [(10, 2, 3)] [(4, 6)] 0 13 0 0 7 W h checkIs_S (.inr (.inl ⟨rfl, by unfold SOk; omega, rfl⟩)) (.inr ⟨rfl, by decide⟩)
theorem rep_no1 : ¬ RepB (roundOf [(6, 0, 1), (6, 3, 1)]) 1 := by unfold RepB; decide
theorem rep_no2 : ¬ RepB (roundOf [(6, 0, 1), (6, 3, 1)]) 2 := by unfold RepB; decide
theorem rep_yes3 : RepB (roundOf [(6, 0, 1), (6, 3, 1)]) 3 := by unfold RepB; decide
theorem over_no : ¬ Over [(6, 0, 1), (6, 3, 1)] := fun ⟨k, h1, h2⟩ => by
  have : k = 0 ∨ k = 1 ∨ k = 2 := by simp at h1; omega
  rcases this with rfl | rfl | rfl <;> exact absurd h2 (by decide)
theorem san_period (v : Value) (W : World) (h : RM W.heap.size v [(6, 0, 1), (6, 3, 1)] [] W) : Calls Tryd.prog 46 #[v] W fun e w' => e = .returned (.tuple #[.int .i64 3, .int .i64 0]) ∧ Below W.heap.size W w' :=
  (period_main v _ W h checkIs_P (by decide)).mono fun e w' ⟨h, hb⟩ => by
    rcases h with ⟨h, _⟩ | ⟨_, _, _, p, p1, p2, p3, p4, he⟩
    · exact absurd h over_no
    · have a1 : p ≠ 1 := fun c => rep_no1 (c ▸ p3)
      have a2 : p ≠ 2 := fun c => rep_no2 (c ▸ p3)
      have a3 : ¬ 3 < p := fun c => p4 3 (by omega) c rep_yes3
      obtain rfl : p = 3 := by omega
      exact ⟨he, hb⟩
theorem san_print (v : Value) (W : World) (h : RM W.heap.size v [(10, 2, 3)] [(4, 6)] W) : Calls Tryd.prog 51 #[v] W fun e w' => e = .returned (.tuple #[.string ⟨#[101, 118, 101, 114, 121, 32, 49, 48, 32, 102, 114, 111, 109, 32, 50, 32, 102, 111, 114, 32, 51, 59, 10, 98, 101, 116, 119, 101, 101, 110, 32, 52, 32, 97, 110, 100, 32, 54, 59, 10]⟩, .int .i64 0]) ∧ Below W.heap.size W w' :=
  (print_ok v [(10, 2, 3)] [(4, 6)] W h checkIs_S ⟨fun t ht => by simp at ht; subst ht; exact ⟨itoaOk_small _ _ _ (by decide) (by decide), itoaOk_small _ _ _ (by decide) (by decide), itoaOk_small _ _ _ (by decide) (by decide)⟩,
    fun s hs => by simp at hs; subst hs; exact ⟨itoaOk_small _ _ _ (by decide) (by decide), itoaOk_small _ _ _ (by decide) (by decide)⟩⟩).mono fun e w' ⟨he, hb⟩ => ⟨he.trans (by
      rw [show (textTs [(10, 2, 3)] ++ textSs [(4, 6)]).toArray = #[101, 118, 101, 114, 121, 32, 49, 48, 32, 102, 114, 111, 109, 32, 50, 32, 102, 111, 114, 32, 51, 59, 10, 98, 101, 116, 119, 101, 101, 110, 32, 52, 32, 97, 110, 100, 32, 54, 59, 10] by kernel_rfl]), hb⟩
def txt1 : ByteArray := ⟨#[101, 118, 101, 114, 121, 32, 49, 48, 32, 102, 114, 111, 109, 32, 49, 48, 32, 102, 111, 114, 32, 51, 59]⟩
def txt2 : ByteArray := ⟨#[98, 101, 116, 119, 101, 101, 110, 32, 53, 48, 32, 97, 110, 100, 32, 52, 59]⟩
theorem turnF_txt1 : (turnF txt1.data.toList (0, false)).2 = (15, true) := by kernel_rfl
theorem spanF_txt2 : (spanF txt2.data.toList (0, false)).2 = (16, true) := by kernel_rfl
theorem san_parse1 (W : World) : Calls Tryd.prog 53 #[.string ⟨#[101, 118, 101, 114, 121, 32, 49, 48, 32, 102, 114, 111, 109, 32, 49, 48, 32, 102, 111, 114, 32, 51, 59]⟩] W (ParseFail 15 W) :=
  parse_turn_fails txt1 15 W (by decide) (by decide) (by decide) turnF_txt1
theorem san_parse2 (W : World) : Calls Tryd.prog 53 #[.string ⟨#[98, 101, 116, 119, 101, 101, 110, 32, 53, 48, 32, 97, 110, 100, 32, 52, 59]⟩] W (ParseFail 16 W) :=
  parse_span_fails txt2 16 W (by decide) (by decide) (by decide) spanF_txt2
end Go.Proofs.YtlhgpeelenelbaaDoor
