/- Contracts of what two turns have in common. -/
import Derived.Test.YtcdodfehnkgjdaaGreatDoorA2
import Derived.IntWalk
import Derived.WalkSmall
namespace Go.Proofs.YtcdodfehnkgjdaaGreatDoor
open Go.RowKit

set_option maxHeartbeats 1000000 in
theorem divides_any (m pa fa la pb fb lb : Int) (w : World) (ha : 0 ≤ pa) (hb : 0 ≤ pb) (ha' : pa ≤ 9000000000000000) (hb' : pb ≤ 9000000000000000) :
    Calls Tryz.prog 50 #[.int .i64 m, tv pa fa la, tv pb fb lb] w fun e w' => e = .returned (.bool (dvB m pa pb)) ∧ Below w.heap.size w w' := by
  by_cases c1 : 1 ≤ m
  · have hz : (m == 0) = false := beq_eq_false_iff_ne.2 (by omega)
    have e1 : 0 ≤ pa % m := Int.emod_nonneg _ (by omega)
    have e2 : 0 ≤ pb % m := Int.emod_nonneg _ (by omega)
    by_cases c2 : pa % m = 0
    · have c2' : (pa % m == 0) = true := beq_iff_eq.2 c2
      by_cases c3 : pb % m = 0
      · have c3' : (pb % m == 0) = true := beq_iff_eq.2 c3
        have H : dvB m pa pb = true := by simp [dvB, c1, c2, c3]
        have H' := Lib.hid H
        clear c2 c3 H
        go_enter Tryz.func50, Tryz.ntmps50
        go_wp2
        go_ret
        exact ⟨by rw [H'.out]; rfl, ((Below.refl _ _).alloc (Nat.le_refl _) _).alloc (by simp) _⟩
      · have c3' : (pb % m == 0) = false := beq_eq_false_iff_ne.2 c3
        have H : dvB m pa pb = false := by simp [dvB, c3]
        have H' := Lib.hid H
        clear c2 c3 H
        go_enter Tryz.func50, Tryz.ntmps50
        go_wp2
        go_ret
        exact ⟨by rw [H'.out]; rfl, ((Below.refl _ _).alloc (Nat.le_refl _) _).alloc (by simp) _⟩
    · have c2' : (pa % m == 0) = false := beq_eq_false_iff_ne.2 c2
      have H : dvB m pa pb = false := by simp [dvB, c2]
      have H' := Lib.hid H
      clear c2 H
      go_enter Tryz.func50, Tryz.ntmps50
      go_wp2
      go_ret
      exact ⟨by rw [H'.out]; rfl, ((Below.refl _ _).alloc (Nat.le_refl _) _).alloc (by simp) _⟩
  · have H : dvB m pa pb = false := by simp [dvB, c1]
    have H' := Lib.hid H
    clear H
    go_enter Tryz.func50, Tryz.ntmps50
    go_wp2
    go_ret
    exact ⟨by rw [H'.out]; rfl, ((Below.refl _ _).alloc (Nat.le_refl _) _).alloc (by simp) _⟩

set_option maxHeartbeats 1000000 in
theorem times_any (p f l m r : Int) (w : World) (h : TOk p f l) (h1 : 1 ≤ m) (h2 : m ≤ 9000000000) (h3 : 0 ≤ r) (h4 : r ≤ 9000000000) :
    Calls Tryz.prog 51 #[tv p f l, .int .i64 m, .int .i64 r] w fun e w' => e = .returned (.int .i64 (timesF f l m r)) ∧ Below w.heap.size w w' := by
  obtain ⟨a1, a2, a3, a4, a5, a6⟩ := h
  have hz : (m == 0) = false := beq_eq_false_iff_ne.2 (by omega)
  have e1 : 0 ≤ (r - f) % m := Int.emod_nonneg _ (by omega)
  have e2 : (r - f) % m < m := Int.emod_lt_of_pos _ (by omega)
  have e3 : 0 ≤ l % m := Int.emod_nonneg _ (by omega)
  have e4 : l % m < m := Int.emod_lt_of_pos _ (by omega)
  have e5 : 0 ≤ l / m := Int.ediv_nonneg (by omega) (by omega)
  have e6 : l / m ≤ l := Int.ediv_le_self _ (by omega)
  have b1 : -9000000000 ≤ r - f := by omega
  have b2 : r - f ≤ 9000000000 := by omega
  have hw : IntKind.i64.wrap (r - f) = r - f := IntWalk.i64_in _ (by omega)
  have H : timesF f l m r = l / m + if (r - f) % m < l % m then 1 else 0 := rfl
  have H' := Lib.hid H
  clear H
  by_cases c : (r - f) % m < l % m
  all_goals
    go_enter Tryz.func51, Tryz.ntmps51
    go_wp2_with fail
    go_quiet ((go_at_call 36; exact Calls.quiet_of_same (flip_same (remainder_any (r - f) m _ h1 (by omega) (by omega) (by omega)))))
    go_wp2_with fail
    go_ret
  · exact ⟨by rw [H'.out, if_pos c]; rfl, below_drewN ((Below.refl _ _).alloc (Nat.le_refl _) _) _⟩
  · exact ⟨by rw [H'.out, if_neg (by omega)]; simp, below_drewN ((Below.refl _ _).alloc (Nat.le_refl _) _) _⟩

set_option maxHeartbeats 1000000 in
theorem checkPair_any (pa fa la pb fb lb : Int) (c : Int) (w : World) (h : (TOk pa fa la ∧ TOk pb fb lb ∧ c = 0) ∨ ((¬ TOk pa fa la ∨ ¬ TOk pb fb lb) ∧ c = 1)) :
    Calls Tryz.prog 46 #[tv pa fa la, tv pb fb lb] w fun e w' => e = .returned (.int .i64 c) ∧ Below w.heap.size w w' := by
  by_cases ha : TOk pa fa la
  · by_cases hb : TOk pb fb lb
    · obtain rfl : c = 0 := by rcases h with ⟨_, _, h⟩ | ⟨h | h, _⟩ <;> first | exact h | exact absurd ‹_› h
      clear h
      go_enter Tryz.func46, Tryz.ntmps46
      go_wp2_with fail
      refine (checkTurn_ok pa fa la _ ha).mono ?_
      rintro e w1 ⟨rfl, h1⟩
      obtain ⟨hc, hf⟩ := bcell h1
      have hz := h1.size
      go_wp2_with fail
      refine (checkTurn_ok pb fb lb _ hb).mono ?_
      rintro e w2 ⟨rfl, h2⟩
      go_wp2_with fail
      go_ret
      exact ⟨rfl, (((Below.refl _ _).alloc (Nat.le_refl _) _).alloc (by simp) _).trans ((h1.mono (by simp; omega)).trans (h2.mono (by simp at hz; omega)))⟩
    · obtain rfl : c = 1 := by rcases h with ⟨_, h, _⟩ | ⟨_, h⟩ <;> first | exact h | exact absurd h hb
      clear h
      go_enter Tryz.func46, Tryz.ntmps46
      go_wp2_with fail
      refine (checkTurn_ok pa fa la _ ha).mono ?_
      rintro e w1 ⟨rfl, h1⟩
      obtain ⟨hc, hf⟩ := bcell h1
      have hz := h1.size
      go_wp2_with fail
      refine (checkTurn_bad pb fb lb _ hb).mono ?_
      rintro e w2 ⟨rfl, h2⟩
      go_wp2_with fail
      go_ret
      exact ⟨rfl, (((Below.refl _ _).alloc (Nat.le_refl _) _).alloc (by simp) _).trans ((h1.mono (by simp; omega)).trans (h2.mono (by simp at hz; omega)))⟩
  · obtain rfl : c = 1 := by rcases h with ⟨h, _⟩ | ⟨_, h⟩ <;> first | exact h | exact absurd h ha
    clear h
    go_enter Tryz.func46, Tryz.ntmps46
    go_wp2_with fail
    refine (checkTurn_bad pa fa la _ ha).mono ?_
    rintro e w1 ⟨rfl, h1⟩
    obtain ⟨hc, hf⟩ := bcell h1
    have hz := h1.size
    go_wp2_with fail
    go_ret
    exact ⟨rfl, (((Below.refl _ _).alloc (Nat.le_refl _) _).alloc (by simp) _).trans (h1.mono (by simp; omega))⟩

set_option maxHeartbeats 1000000 in
theorem upTo_any (p f l n : Int) (w : World) (h : TOk p f l) (h3 : -1000000000000000 ≤ n) (h4 : n ≤ 1000000000000000) :
    Calls Tryz.prog 72 #[tv p f l, .int .i64 n] w fun e w' => e = .returned (sv2 (n - (n - f) % p) (n - (n - f) % p + l - 1)) ∧ Below w.heap.size w w' := by
  obtain ⟨a1, a2, a3, a4, a5, a6⟩ := h
  have e1 : 0 ≤ (n - f) % p := Int.emod_nonneg _ (by omega)
  have e2 : (n - f) % p < p := Int.emod_lt_of_pos _ (by omega)
  go_enter Tryz.func72, Tryz.ntmps72
  go_wp2_with fail
  refine (remainder_any (n - f) p _ (by omega) (by omega) (by omega) (by omega)).mono ?_
  rintro e w' ⟨rfl, rfl⟩
  go_wp2_with fail
  refine bodyPost_ret (v := sv2 (n - (n - f) % p) (n - (n - f) % p + l - 1)) (by simp [results, Tryz.results72, go_sem]) rfl ⟨rfl, ?_⟩
  exact ((Below.refl _ _).alloc (Nat.le_refl _) _).alloc (by simp) _

set_option maxHeartbeats 1000000 in
theorem from_any (p f l n : Int) (w : World) (h : TOk p f l) (h3 : -1000000000000000 ≤ n) (h4 : n ≤ 1000000000000000) :
    Calls Tryz.prog 49 #[tv p f l, .int .i64 n] w fun e w' => e = .returned (sv2 (fromLo p f l n) (fromLo p f l n + l - 1)) ∧ Below w.heap.size w w' := by
  have h' := h
  obtain ⟨a1, a2, a3, a4, a5, a6⟩ := h'
  have e1 : 0 ≤ (n - f) % p := Int.emod_nonneg _ (by omega)
  have e2 : (n - f) % p < p := Int.emod_lt_of_pos _ (by omega)
  have H : fromLo p f l n = if l ≤ (n - f) % p then n - (n - f) % p + p else n - (n - f) % p := rfl
  have C := fun w => upTo_any p f l n w h h3 h4
  generalize hr : (n - f) % p = r at *
  have H' := Lib.hid H
  have HC := Lib.hid C
  clear H C hr
  by_cases c : l ≤ r
  · go_enter Tryz.func49, Tryz.ntmps49
    go_wp2_with fail
    refine (HC.out _).mono ?_
    rintro e w1 ⟨rfl, h1⟩
    obtain ⟨hc, hf⟩ := bcell h1
    have hz1 : w.heap.size + 1 < w1.heap.size := by have := h1.size; simp at this; omega
    have hz0 : w.heap.size < w1.heap.size := by omega
    go_wp2_with fail
    have q0 := World.cell?_setCell_same' w1 ⟨w.heap.size + 1, 0, none⟩ (.int .i64 (n - r + p)) (by rw [hc _ _ (by simp [go_sem])]; simp [go_sem])
    have q1 := World.cell?_setCell_same' (w1.setCell ⟨w.heap.size + 1, 0, none⟩ (.int .i64 (n - r + p))) ⟨w.heap.size + 1, 1, none⟩ (.int .i64 (n - r + l - 1 + p)) (by simp [go_sem, hc])
    refine bodyPost_ret (v := sv2 (n - r + p) (n - r + l - 1 + p)) (by simp [results, Tryz.results49, go_sem, hz1, q0, q1]) rfl ⟨?_, ?_⟩
    · rw [H'.out, if_pos c]; rw [show n - r + p + l - 1 = n - r + l - 1 + p from by omega]
    · exact (((((((Below.refl _ _).alloc (Nat.le_refl _) _).alloc (by simp) _).trans (h1.mono (by simp; omega))).setCell (p := ⟨w.heap.size + 1, 0, none⟩) (Nat.le_succ _) _).setCell (p := ⟨w.heap.size + 1, 1, none⟩) (Nat.le_succ _) _).alloc (by simp [go_sem]; omega) _)
  · go_enter Tryz.func49, Tryz.ntmps49
    go_wp2_with fail
    refine (HC.out _).mono ?_
    rintro e w1 ⟨rfl, h1⟩
    obtain ⟨hc, hf⟩ := bcell h1
    have hz1 : w.heap.size + 1 < w1.heap.size := by have := h1.size; simp at this; omega
    have hz0 : w.heap.size < w1.heap.size := by omega
    go_wp2_with fail
    have q0 := World.cell?_setCell_same' w1 ⟨w.heap.size + 1, 0, none⟩ (.int .i64 (n - r)) (by rw [hc _ _ (by simp [go_sem])]; simp [go_sem])
    have q1 := World.cell?_setCell_same' (w1.setCell ⟨w.heap.size + 1, 0, none⟩ (.int .i64 (n - r))) ⟨w.heap.size + 1, 1, none⟩ (.int .i64 (n - r + l - 1)) (by simp [go_sem, hc])
    refine bodyPost_ret (v := sv2 (n - r) (n - r + l - 1)) (by simp [results, Tryz.results49, go_sem, hz1, q0, q1]) rfl ⟨?_, ?_⟩
    · rw [H'.out, if_neg (by omega)]
    · exact (((((((Below.refl _ _).alloc (Nat.le_refl _) _).alloc (by simp) _).trans (h1.mono (by simp; omega))).setCell (p := ⟨w.heap.size + 1, 0, none⟩) (Nat.le_succ _) _).setCell (p := ⟨w.heap.size + 1, 1, none⟩) (Nat.le_succ _) _).alloc (by simp [go_sem]; omega) _)
end Go.Proofs.YtcdodfehnkgjdaaGreatDoor
