/- The law TurnPeriods, its calls met by their contracts. -/
import Derived.Test.YtlhgpeelenelbaaDoorUF
namespace Go.Proofs.YtlhgpeelenelbaaDoor
open Go.RowKit

/-- A block of three cells. -/
def Tri (b : Nat) (x y z : Value) (W : World) : Prop := W.cell? ⟨b, 0, none⟩ = some x ∧ W.cell? ⟨b, 1, none⟩ = some y ∧ W.cell? ⟨b, 2, none⟩ = some z ∧ b < W.heap.size
theorem Tri.out {b : Nat} {x y z : Value} {W : World} (h : Tri b x y z W) : W.cell? ⟨b, 0, none⟩ = some x ∧ W.cell? ⟨b, 1, none⟩ = some y ∧ W.cell? ⟨b, 2, none⟩ = some z ∧ b < W.heap.size := h
theorem Tri.below {b : Nat} {x y z : Value} {W W' : World} (h : Tri b x y z W) (hb : Below W.heap.size W W') : Tri b x y z W' := by
  obtain ⟨h0, h1, h2, hl⟩ := h
  exact ⟨(hb.cell (p := ⟨b, 0, none⟩) hl).trans h0, (hb.cell (p := ⟨b, 1, none⟩) hl).trans h1, (hb.cell (p := ⟨b, 2, none⟩) hl).trans h2, Nat.lt_of_lt_of_le hl hb.size⟩
theorem Tri.new {W : World} {x y z : Value} (t : TypeId) : Tri W.heap.size x y z (W.alloc (.cells #[x, y, z] t)) := ⟨by simp [go_sem], by simp [go_sem], by simp [go_sem], by simp⟩
theorem RT.later {v : Value} {l : List T3} {W W' : World} (h : RT W.heap.size v l W) (hb : Below W.heap.size W W') : RT W'.heap.size v l W' := h.up hb.size hb
theorem RT.slice {B : Nat} {v : Value} {l : List T3} {W : World} (h : RT B v l W) : ∃ A n c, v = .slice A n c := by
  obtain ⟨A, c, rfl, _⟩ := h
  exact ⟨_, _, _, rfl⟩
theorem rm_of {A : Option Addr} {n c : Nat} {l : List T3} {W : World} (h : RT W.heap.size (.slice A n c) l W) : RM W.heap.size (.agg #[.slice A n c, .slice none 0 0]) l [] W :=
  ⟨A, n, c, none, 0, 0, rfl, h, rs_nil _ _⟩
def SoonPost (w : World) (e : Ending) (w' : World) : Prop := (∃ b, e = .returned (.bool b)) ∧ Below w.heap.size w w'

set_option maxHeartbeats 4000000 in
set_option maxRecDepth 100000 in
theorem periods_no (hsan : ∀ W, Calls Tryd.prog 16 #[] W fun e w' => e = .returned (.bool true) ∧ Below W.heap.size W w') (A A' : Option Addr) (k c k' c' : Nat) (w : World) (f1 : fewB k k' = false) :
    Calls Tryd.prog 8 #[.agg #[.slice A k c, .slice A' k' c']] w fun e w' => e = .returned (.bool true) ∧ Below w.heap.size w w' := by
  have HS := Lib.hid hsan
  have S0 := Lib.hid (NSd.new (w := w) (v0 := .slice A k c) (v1 := .slice A' k' c') 25)
  have F1 := Lib.hid fun W => few_any A A' k c k' c' W
  rw [f1] at F1
  clear hsan f1
  go_enter Tryd.func8, Tryd.ntmps8
  go_wp2_with fail
  refine (F1.out _).mono ?_
  rintro e w1 ⟨rfl, h1⟩
  have S := Lib.hid (S0.out.below h1)
  clear h1 S0
  go_wp2_with fail
  refine (HS.out _).mono ?_
  rintro e w2 ⟨rfl, h2⟩
  have S := Lib.hid (S.out.below h2)
  clear h2
  go_wp2_with fail
  go_ret
  exact ⟨rfl, S.out.bel⟩

set_option maxHeartbeats 8000000 in
set_option maxRecDepth 100000 in
theorem periods_yes (hsan : ∀ W, Calls Tryd.prog 16 #[] W fun e w' => e = .returned (.bool true) ∧ Below W.heap.size W w') (A A' : Option Addr) (k c k' c' : Nat) (ts : List T3) (ss : List S2) (w : World) (h : RM w.heap.size (.agg #[.slice A k c, .slice A' k' c']) ts ss w) (f1 : fewB k k' = true) :
    Calls Tryd.prog 8 #[.agg #[.slice A k c, .slice A' k' c']] w fun e w' => e = .returned (.bool true) ∧ Below w.heap.size w w' := by
  have HS := Lib.hid hsan
  have S0 := Lib.hid (NSd.new (w := w) (v0 := .slice A k c) (v1 := .slice A' k' c') 25)
  obtain ⟨ck, hc⟩ := CheckIs.exists_ ts ss
  have F1 := Lib.hid fun W => few_any A A' k c k' c' W
  rw [f1] at F1
  have C0 : Hid (∀ W, NSd w (.slice A k c) (.slice A' k' c') W → Calls Tryd.prog 45 #[.agg #[.slice A k c, .slice A' k' c'], .int .i64 2520] W (SoonPost W)) := Lib.hid fun W S => soon_any _ ts ss ck 2520 W (h.up S.siz S.bel) hc
  have C1 := Lib.hid fun W (S : NSd w (.slice A k c) (.slice A' k' c') W) => period_any _ ts ss ck W (h.up S.siz S.bel) hc
  have C2 := Lib.hid fun W (S : NSd w (.slice A k c) (.slice A' k' c') W) => rperiod_any _ ts ss ck W (h.up S.siz S.bel) hc
  have C3 := Lib.hid fun W (S : NSd w (.slice A k c) (.slice A' k' c') W) => fewest_any _ ts ss ck W (h.up S.siz S.bel) hc
  have C4 := Lib.hid fun W (S : NSd w (.slice A k c) (.slice A' k' c') W) => rfewest_any _ ts ss ck W (h.up S.siz S.bel) hc
  clear hsan h hc f1
  go_enter Tryd.func8, Tryd.ntmps8
  go_wp2_with fail
  refine (F1.out _).mono ?_
  rintro e w1 ⟨rfl, h1⟩
  have S := Lib.hid (S0.out.below h1)
  clear h1 S0
  obtain ⟨t0, t1, t2, _⟩ := S.out.out
  go_wp2_with fail
  refine (C0.out _ S.out).mono ?_
  rintro e w2 ⟨⟨b, rfl⟩, h2⟩
  have S := Lib.hid (S.out.below h2)
  clear h2 t0 t1 t2 C0
  cases b
  · go_wp2_with fail
    refine (HS.out _).mono ?_
    rintro e w3 ⟨rfl, h3⟩
    have S := Lib.hid (S.out.below h3)
    clear h3
    go_wp2_with fail
    go_ret
    exact ⟨rfl, S.out.bel⟩
  · obtain ⟨t0, t1, t2, _⟩ := S.out.out
    go_wp2_with fail
    refine (C1.out _ S.out).mono ?_
    rintro e w3 ⟨r, d, rfl, hp, h3⟩
    have S := Lib.hid (S.out.below h3)
    have HP := Lib.hid hp
    clear h3 hp t0 t1 t2 C1
    obtain ⟨t0, t1, t2, _⟩ := S.out.out
    go_wp2_with fail
    refine (C2.out _ S.out).mono ?_
    rintro e w4 ⟨r', d', rfl, hp, h4⟩
    obtain ⟨rfl, rfl⟩ := HP.out.unique hp
    have S := Lib.hid ((S.out.below h4).alloc (.cells #[.int .i64 r, .int .i64 d] 63))
    have T5 := Lib.hid (Two.new (W := w4) (x := .int .i64 r) (y := .int .i64 d) 63)
    clear h4 hp HP t0 t1 t2 C2
    obtain ⟨t0, t1, t2, _⟩ := S.out.out
    go_wp2_with fail
    refine (C3.out _ S.out).mono ?_
    rintro e w5 ⟨v, l, d2, rfl, r1, h5, hf⟩
    obtain ⟨X, nx, cx, rfl⟩ := r1.slice
    have ba := (Below.refl w5.heap.size w5).alloc (Nat.le_refl _) (.cells #[.slice X nx cx, .slice none 0 0] 25)
    have S := Lib.hid ((S.out.below h5).below ba)
    have T5 := Lib.hid ((T5.out.below h5).below ba)
    have T6 := Lib.hid (Two.new (W := w5) (x := .slice X nx cx) (y := .slice none 0 0) 25)
    have R1 := Lib.hid (r1.later ba)
    have HF := Lib.hid hf
    clear h5 hf r1 ba t0 t1 t2 C3
    obtain ⟨t0, t1, t2, _⟩ := S.out.out
    go_wp2_with fail
    refine (C4.out _ S.out).mono ?_
    rintro e w6 ⟨v', l', d2', rfl, r2, h6, hf⟩
    obtain ⟨Y, ny, cy, rfl⟩ := r2.slice
    obtain ⟨rfl, rfl⟩ := HF.out.unique hf
    have ba := (Below.refl w6.heap.size w6).alloc (Nat.le_refl _) (.cells #[.slice Y ny cy, .slice none 0 0, .int .i64 d2] 68)
    have S := Lib.hid ((S.out.below h6).below ba)
    have T5 := Lib.hid ((T5.out.below h6).below ba)
    have T6 := Lib.hid ((T6.out.below h6).below ba)
    have T8 := Lib.hid (Tri.new (W := w6) (x := .slice Y ny cy) (y := .slice none 0 0) (z := .int .i64 d2) 68)
    have R1 := Lib.hid ((R1.out.later h6).later ba)
    have R2 := Lib.hid (r2.later ba)
    clear h6 hf r2 ba t0 t1 t2 C4 HF
    go_wp2_with fail
    refine (HS.out _).mono ?_
    rintro e w7 ⟨rfl, h7⟩
    have S := Lib.hid (S.out.below h7)
    have T5 := Lib.hid (T5.out.below h7)
    have T6 := Lib.hid (T6.out.below h7)
    have T8 := Lib.hid (T8.out.below h7)
    have R1 := Lib.hid (R1.out.later h7)
    have R2 := Lib.hid (R2.out.later h7)
    clear h7
    obtain ⟨a0, a1, _⟩ := T5.out
    obtain ⟨b0, b1, _⟩ := T6.out
    obtain ⟨c0, c1, c2, _⟩ := T8.out.out
    go_wp2_with fail
    refine (sameSet_eq _ _ _ _ _ (rm_of R1.out) (rm_of R2.out)).mono ?_
    rintro e w8 ⟨rfl, h8⟩
    have S := Lib.hid (S.out.below h8)
    have T8 := Lib.hid (T8.out.below h8)
    clear h8 a0 a1 b0 b1 c0 c1 c2
    obtain ⟨c0, c1, c2, _⟩ := T8.out.out
    go_wp2_with fail
    go_ret
    exact ⟨by simp, S.out.bel⟩

theorem turnPeriods_calls (hsan : ∀ W, Calls Tryd.prog 16 #[] W fun e w' => e = .returned (.bool true) ∧ Below W.heap.size W w') (A : Option Addr) (k c : Nat) (A' : Option Addr) (k' c' : Nat) (w : World) (ho : k ≤ 1000000000000 → k' ≤ 1000000000000 → ∃ ts ss, RM w.heap.size (.agg #[.slice A k c, .slice A' k' c']) ts ss w) :
    Calls Tryd.prog 8 #[.agg #[.slice A k c, .slice A' k' c']] w fun e w' => e = .returned (.bool true) ∧ Below w.heap.size w w' := by
  cases f1 : fewB k k' with
  | false => exact periods_no hsan A A' k c k' c' w f1
  | true =>
    have hk : k ≤ 30 ∧ k' ≤ 50 := by
      simp only [fewB, Bool.and_eq_true, Bool.or_eq_true, decide_eq_true_eq] at f1
      omega
    obtain ⟨ts, ss, h⟩ := ho (by omega) (by omega)
    exact periods_yes hsan A A' k c k' c' ts ss w h f1
end Go.Proofs.YtlhgpeelenelbaaDoor
