/- Contract of sanity. -/
import Derived.Test.YtlhgpeelenelbaaDoorI1
namespace Go.Proofs.YtlhgpeelenelbaaDoor
open Go.RowKit

/-- The set of the examples, at blocks n to n + 2. -/
def SanD (n : Nat) (w W : World) : Prop :=
  W.cell? ⟨n + 1 + 1, 0, none⟩ = some (.slice (some ⟨n, 0, none⟩) 1 1) ∧ W.cell? ⟨n + 1 + 1, 1, none⟩ = some (.slice (some ⟨n + 1, 0, none⟩) 1 1) ∧ n + 1 + 1 < W.heap.size ∧
  RM W.heap.size (.agg #[.slice (some ⟨n, 0, none⟩) 1 1, .slice (some ⟨n + 1, 0, none⟩) 1 1]) [(10, 2, 3)] [(4, 6)] W ∧ Below w.heap.size w W ∧ w.heap.size ≤ n
theorem SanD.below {n : Nat} {w W W' : World} (h : SanD n w W) (hb : Below W.heap.size W W') : SanD n w W' := by
  obtain ⟨h1, h2, h3, h4, h5, h6⟩ := h
  have hs := hb.size
  exact ⟨(hb.cell (p := ⟨n + 1 + 1, 0, none⟩) h3).trans h1, (hb.cell (p := ⟨n + 1 + 1, 1, none⟩) h3).trans h2, by omega, h4.up hs hb, h5.trans (hb.mono (by omega)), h6⟩
theorem SanD.alloc {n : Nat} {w W : World} (h : SanD n w W) (o : Obj) : SanD n w (W.alloc o) := h.below ((Below.refl _ _).alloc (Nat.le_refl _) o)
theorem SanD.drew {n : Nat} {w W : World} (h : SanD n w W) : SanD n w W.drew := h.below (Below.refl _ _).drew
theorem rm_one (W : World) (p f l : Int) : RM (W.alloc (.cells #[.int .i64 p, .int .i64 f, .int .i64 l] 27)).heap.size (.agg #[.slice (some ⟨W.heap.size, 0, none⟩) 1 1, .slice none 0 0]) [(p, f, l)] [] (W.alloc (.cells #[.int .i64 p, .int .i64 f, .int .i64 l] 27)) := by
  refine ⟨_, _, _, _, _, _, rfl, ⟨_, _, rfl, by simp, fun _ => ⟨_, _, rfl, by simp, fun k p' f' l' hk => ?_⟩⟩, rs_nil _ _⟩
  match k, hk with
  | 0, hk => simp at hk; obtain ⟨rfl, rfl, rfl⟩ := hk; simp [go_sem]
  | k + 1, hk => simp at hk
theorem rm_two (W : World) (p f l p1 f1 l1 : Int) : RM (W.alloc (.cells #[.int .i64 p, .int .i64 f, .int .i64 l, .int .i64 p1, .int .i64 f1, .int .i64 l1] 27)).heap.size (.agg #[.slice (some ⟨W.heap.size, 0, none⟩) 2 2, .slice none 0 0]) [(p, f, l), (p1, f1, l1)] [] (W.alloc (.cells #[.int .i64 p, .int .i64 f, .int .i64 l, .int .i64 p1, .int .i64 f1, .int .i64 l1] 27)) := by
  refine ⟨_, _, _, _, _, _, rfl, ⟨_, _, rfl, by simp, fun _ => ⟨_, _, rfl, by simp, fun k p' f' l' hk => ?_⟩⟩, rs_nil _ _⟩
  match k, hk with
  | 0, hk => simp at hk; obtain ⟨rfl, rfl, rfl⟩ := hk; simp [go_sem]
  | 1, hk => simp at hk; obtain ⟨rfl, rfl, rfl⟩ := hk; simp [go_sem]
  | k + 2, hk => simp at hk
theorem rs_two (W : World) (a b c d : Int) : RS (W.alloc (.cells #[.int .i64 a, .int .i64 b, .int .i64 c, .int .i64 d] 49)).heap.size (.slice (some ⟨W.heap.size, 0, none⟩) 2 2) [(a, b), (c, d)] (W.alloc (.cells #[.int .i64 a, .int .i64 b, .int .i64 c, .int .i64 d] 49)) := by
  refine ⟨_, _, rfl, by simp, fun _ => ⟨_, _, rfl, by simp, fun k p' f' hk => ?_⟩⟩
  match k, hk with
  | 0, hk => simp at hk; obtain ⟨rfl, rfl⟩ := hk; simp [go_sem]
  | 1, hk => simp at hk; obtain ⟨rfl, rfl⟩ := hk; simp [go_sem]
  | k + 2, hk => simp at hk
theorem sanD_new (w w1 : World) (h : Below w.heap.size w w1) (hs : w.heap.size ≤ w1.heap.size) : SanD w1.heap.size w (((w1.alloc (.cells #[.int .i64 10, .int .i64 2, .int .i64 3] 27)).alloc (.cells #[.int .i64 4, .int .i64 6] 49)).alloc (.cells #[.slice (some ⟨w1.heap.size, 0, none⟩) 1 1, .slice (some ⟨w1.heap.size + 1, 0, none⟩) 1 1] 25)) := by
  have hT := (rm_one w1 10 2 3)
  refine ⟨by simp [go_sem], by simp [go_sem], by simp, ⟨_, _, _, _, _, _, rfl, ?_, ?_⟩, ((h.alloc hs _).alloc (by simp; omega) _).alloc (by simp; omega) _, hs⟩
  · obtain ⟨A, n, c, A', n', c', e, h1, -⟩ := hT
    obtain ⟨⟨rfl, rfl, rfl⟩, -⟩ := by simpa using e
    exact h1.up (by simp) (((Below.refl _ _).alloc (Nat.le_refl _) _).alloc (by simp) _)
  · refine ⟨_, _, rfl, by simp, fun _ => ⟨_, _, rfl, by simp, fun k p' f' hk => ?_⟩⟩
    match k, hk with
    | 0, hk =>
      simp at hk; obtain ⟨rfl, rfl⟩ := hk
      have z : w1.heap.size + 1 < ((w1.alloc (.cells #[.int .i64 10, .int .i64 2, .int .i64 3] 27)).alloc (.cells #[.int .i64 4, .int .i64 6] 49)).heap.size := by simp
      exact ⟨by rw [World.cell?_alloc_lt _ _ _ z]; simp [go_sem], by rw [World.cell?_alloc_lt _ _ _ z]; simp [go_sem]⟩
    | k + 1, hk => simp at hk

set_option maxHeartbeats 4000000 in
set_option maxRecDepth 1000000 in
theorem sanity_any (w : World) : Calls Tryd.prog 16 #[] w fun e w' => e = .returned (.bool true) ∧ Below w.heap.size w w' := by
  go_enter Tryd.func16, Tryd.ntmps16
  go_wp2_with fail
  refine (san_A _).mono ?_
  rintro e w1 ⟨rfl, h1⟩
  have hn : w.heap.size ≤ w1.heap.size := h1.size
  have S0 := sanD_new w w1 h1 hn
  go_wp2_with fail
  obtain ⟨W0, hW0⟩ : ∃ W0, (((w1.alloc (.cells #[.int .i64 10, .int .i64 2, .int .i64 3] 27)).alloc (.cells #[.int .i64 4, .int .i64 6] 49)).alloc (.cells #[.slice (some ⟨w1.heap.size, 0, none⟩) 1 1, .slice (some ⟨w1.heap.size + 1, 0, none⟩) 1 1] 25)) = W0 := ⟨_, rfl⟩
  rw [hW0] at S0 ⊢
  obtain ⟨n, hn'⟩ : ∃ n, w1.heap.size = n := ⟨_, rfl⟩
  rw [hn'] at S0 hn ⊢
  have S := Lib.hid S0
  clear S0 hW0 h1 hn hn' w1
  refine (san_A _).mono ?_
  rintro e w2 ⟨rfl, h⟩
  have S := Lib.hid (S.out.below h)
  clear h
  go_wp2_with fail
  refine (san_next _ _ (rm_one _ 10 2 3)).mono ?_
  rintro e w3 ⟨rfl, h⟩
  have S := Lib.hid ((S.out.alloc _).below h)
  clear h
  go_wp2_with fail
  refine (san_A _).mono ?_
  rintro e w4 ⟨rfl, h⟩
  have S := Lib.hid (S.out.below h)
  clear h
  go_wp2_with fail
  refine (san_B _).mono ?_
  rintro e w5 ⟨rfl, h⟩
  have S := Lib.hid (S.out.below h)
  clear h
  go_wp2_with fail
  refine (san_first1 _).mono ?_
  rintro e w6 ⟨rfl, h⟩
  have S := Lib.hid (S.out.below h)
  clear h
  go_wp2_with fail
  refine (san_A _).mono ?_
  rintro e w7 ⟨rfl, h⟩
  have S := Lib.hid (S.out.below h)
  clear h
  go_wp2_with fail
  refine (san_B _).mono ?_
  rintro e w8 ⟨rfl, h⟩
  have S := Lib.hid (S.out.below h)
  clear h
  go_wp2_with fail
  refine (san_apart _).mono ?_
  rintro e w9 ⟨rfl, h⟩
  have S := Lib.hid (S.out.below h)
  clear h
  go_wp2_with fail
  refine (san_A _).mono ?_
  rintro e w10 ⟨rfl, h⟩
  have S := Lib.hid (S.out.below h)
  clear h
  go_wp2_with fail
  refine (san_first2 _).mono ?_
  rintro e w11 ⟨rfl, h⟩
  have S := Lib.hid (S.out.below h)
  clear h
  go_wp2_with fail
  refine (san_A _).mono ?_
  rintro e w12 ⟨rfl, h⟩
  have S := Lib.hid (S.out.below h)
  clear h
  go_wp2_with fail
  refine (san_often _).mono ?_
  rintro e w13 ⟨rfl, h⟩
  have S := Lib.hid (S.out.below h)
  have c0 := S.out.1
  have c1 := S.out.2.1
  clear h
  go_wp2_with fail
  refine (san_spans _ _ S.out.2.2.2.1).mono ?_
  rintro e w14 ⟨vs, rfl, hv, h⟩
  have S := Lib.hid (S.out.below h)
  clear h c0 c1
  have c0 := S.out.1
  have c1 := S.out.2.1
  have V := Lib.hid hv
  clear hv
  go_wp2_with fail
  refine (san_count _ _ S.out.2.2.2.1).mono ?_
  rintro e w15 ⟨rfl, h⟩
  have S := Lib.hid (S.out.below h)
  have V := Lib.hid (V.out.up h.size h)
  clear h c0 c1
  go_wp2_with fail
  refine (san_period _ _ (rm_two _ 6 0 1 6 3 1)).mono ?_
  rintro e w16 ⟨rfl, h⟩
  have S := Lib.hid ((S.out.alloc _).below h)
  have V := Lib.hid ((V.out.up (by simp) ((Below.refl _ _).alloc (Nat.le_refl _) _)).up h.size h)
  clear h
  have c0 := S.out.1
  have c1 := S.out.2.1
  go_wp2_with fail
  refine (san_print _ _ S.out.2.2.2.1).mono ?_
  rintro e w17 ⟨rfl, h⟩
  have S := Lib.hid (S.out.below h)
  have V := Lib.hid (V.out.up h.size h)
  clear h c0 c1
  go_wp2_with fail
  refine (san_parse1 _).mono ?_
  rintro e w18 ⟨rfl, h⟩
  have S := Lib.hid (S.out.below h)
  have V := Lib.hid (V.out.up h.size h)
  clear h
  go_wp2_with fail
  refine (san_parse2 _).mono ?_
  rintro e w19 ⟨rfl, h⟩
  have S := Lib.hid ((S.out.alloc _).below h)
  have V := Lib.hid ((V.out.up (by simp) ((Below.refl _ _).alloc (Nat.le_refl _) _)).up h.size h)
  clear h
  go_wp2_with fail
  have R2 : RS ((w19.alloc (.cells #[.slice none 0 0, .slice none 0 0] 25)).alloc (.cells #[.int .i64 2, .int .i64 6, .int .i64 12, .int .i64 13] 49)).heap.size (.slice (some ⟨w19.heap.size + 1, 0, none⟩) 2 2) [(2, 6), (12, 13)] ((w19.alloc (.cells #[.slice none 0 0, .slice none 0 0] 25)).alloc (.cells #[.int .i64 2, .int .i64 6, .int .i64 12, .int .i64 13] 49)) := by
    have := rs_two (w19.alloc (.cells #[.slice none 0 0, .slice none 0 0] 25)) 2 6 12 13
    simpa only [World.size_alloc] using this
  refine (sameSpans_any vs _ [(2, 6), (12, 13)] [(2, 6), (12, 13)] _ (V.out.up (by simp <;> omega) (((Below.refl _ _).alloc (Nat.le_refl _) _).alloc (by simp) _)) R2).mono ?_
  rintro e w20 ⟨he, h⟩
  rw [show decide ([((2 : Int), (6 : Int)), (12, 13)] = [(2, 6), (12, 13)]) = true by decide] at he
  subst he
  have S := Lib.hid (((S.out.alloc _).alloc _).below h)
  clear h V R2
  go_wp2_with fail
  refine (san_A _).mono ?_
  rintro e w21 ⟨rfl, h⟩
  have S := Lib.hid (S.out.below h)
  clear h
  go_wp2_with fail
  refine (san_B _).mono ?_
  rintro e w22 ⟨rfl, h⟩
  have S := Lib.hid (S.out.below h)
  clear h
  go_wp2_with fail
  refine (san_checkApart _).mono ?_
  rintro e w23 ⟨rfl, h⟩
  have S := Lib.hid (S.out.below h)
  clear h
  go_wp2_with fail
  go_ret
  exact ⟨rfl, S.out.2.2.2.2.1⟩
end Go.Proofs.YtlhgpeelenelbaaDoor
