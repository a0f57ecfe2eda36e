/- Contracts of turn.First: two turns that are not valid, that are kept apart, that meet. -/
import Derived.Test.YtcdodfehnkgjdaaGreatDoorA3
namespace Go.Proofs.YtcdodfehnkgjdaaGreatDoor
open Go.RowKit

/-- Two turns lie in the two blocks that were new at w, and all that lay below is as it was. -/
abbrev SS (w : World) (pa fa la pb fb lb : Int) (W : World) : Prop :=
    W.cell? ⟨w.heap.size, 0, none⟩ = some (.int .i64 pa) ∧ W.cell? ⟨w.heap.size, 1, none⟩ = some (.int .i64 fa) ∧ W.cell? ⟨w.heap.size, 2, none⟩ = some (.int .i64 la) ∧
    W.cell? ⟨w.heap.size + 1, 0, none⟩ = some (.int .i64 pb) ∧ W.cell? ⟨w.heap.size + 1, 1, none⟩ = some (.int .i64 fb) ∧ W.cell? ⟨w.heap.size + 1, 2, none⟩ = some (.int .i64 lb) ∧ w.heap.size + 1 < W.heap.size ∧ Below w.heap.size w W

section
variable {w W w' : World} {pa fa la pb fb lb : Int}
theorem SS.new (t t' : TypeId) : SS w pa fa la pb fb lb ((w.alloc (.cells #[.int .i64 pa, .int .i64 fa, .int .i64 la] t)).alloc (.cells #[.int .i64 pb, .int .i64 fb, .int .i64 lb] t')) := by
  refine ⟨?_, ?_, ?_, ?_, ?_, ?_, ?_, ((Below.refl _ _).alloc (Nat.le_refl _) _).alloc (by simp) _⟩ <;> simp [go_sem]
theorem SS.below (h : SS w pa fa la pb fb lb W) (hb : Below W.heap.size W w') : SS w pa fa la pb fb lb w' := by
  obtain ⟨h0, h1, h2, h3, h4, h5, h6, h7⟩ := h
  obtain ⟨hc, _⟩ := bcell hb
  refine ⟨?_, ?_, ?_, ?_, ?_, ?_, ?_, h7.trans (hb.mono (by omega))⟩
  · rw [hc _ _ (by omega)]; exact h0
  · rw [hc _ _ (by omega)]; exact h1
  · rw [hc _ _ (by omega)]; exact h2
  · rw [hc _ _ (by omega)]; exact h3
  · rw [hc _ _ (by omega)]; exact h4
  · rw [hc _ _ (by omega)]; exact h5
  · exact Nat.lt_of_lt_of_le h6 hb.size
theorem SS.drewN (h : SS w pa fa la pb fb lb W) (n : Nat) : SS w pa fa la pb fb lb (W.drewN n) := SS.below h (below_drewN (Below.refl _ _) n)
theorem SS.drew (h : SS w pa fa la pb fb lb W) : SS w pa fa la pb fb lb W.drew := SS.below h (Below.refl _ _).drew
theorem SS.alloc (h : SS w pa fa la pb fb lb W) (o : Obj) : SS w pa fa la pb fb lb (W.alloc o) := SS.below h ((Below.refl _ _).alloc (Nat.le_refl _) _)
theorem SS.setCell (h : SS w pa fa la pb fb lb W) {p : Addr} (hp : w.heap.size + 2 ≤ p.block) (v : Value) : SS w pa fa la pb fb lb (W.setCell p v) := by
  obtain ⟨h0, h1, h2, h3, h4, h5, h6, h7⟩ := h
  have k : ∀ b o, b < w.heap.size + 2 → (W.setCell p v).cell? ⟨b, o, none⟩ = W.cell? ⟨b, o, none⟩ := fun b o hb =>
    World.cell?_setCell_other W p ⟨b, o, none⟩ v (fun e => by subst e; simp at hp; omega)
  refine ⟨?_, ?_, ?_, ?_, ?_, ?_, by simpa [go_sem] using h6, h7.setCell (by omega) _⟩
  · rw [k _ _ (by omega)]; exact h0
  · rw [k _ _ (by omega)]; exact h1
  · rw [k _ _ (by omega)]; exact h2
  · rw [k _ _ (by omega)]; exact h3
  · rw [k _ _ (by omega)]; exact h4
  · rw [k _ _ (by omega)]; exact h5
end

/-- The same, shut. -/
def SSd (w : World) (pa fa la pb fb lb : Int) (W : World) : Prop := SS w pa fa la pb fb lb W
section
variable {w W w' : World} {pa fa la pb fb lb : Int}
theorem SSd.out (h : SSd w pa fa la pb fb lb W) : SS w pa fa la pb fb lb W := h
theorem SSd.below (h : SSd w pa fa la pb fb lb W) (hb : Below W.heap.size W w') : SSd w pa fa la pb fb lb w' := SS.below h.out hb
theorem SSd.drewN (h : SSd w pa fa la pb fb lb W) (n : Nat) : SSd w pa fa la pb fb lb (W.drewN n) := SS.drewN h.out n
theorem SSd.drew (h : SSd w pa fa la pb fb lb W) : SSd w pa fa la pb fb lb W.drew := SS.drew h.out
theorem SSd.alloc (h : SSd w pa fa la pb fb lb W) (o : Obj) : SSd w pa fa la pb fb lb (W.alloc o) := SS.alloc h.out o
theorem SSd.setCell (h : SSd w pa fa la pb fb lb W) {b o : Nat} (hp : w.heap.size + 2 ≤ b) (v : Value) : SSd w pa fa la pb fb lb (W.setCell ⟨b, o, none⟩ v) := SS.setCell h.out hp v
theorem SSd.size (h : SSd w pa fa la pb fb lb W) : w.heap.size + 1 < W.heap.size := h.out.2.2.2.2.2.2.1
end

set_option maxHeartbeats 1000000 in
theorem first_bad (pa fa la pb fb lb : Int) (w : World) (h : ¬ TOk pa fa la ∨ ¬ TOk pb fb lb) :
    Calls Tryz.prog 16 #[tv pa fa la, tv pb fb lb] w fun e w' => e = .returned (.tuple #[.int .i64 0, .int .i64 1]) ∧ Below w.heap.size w w' := by
  have S0 := Lib.hid (SS.new (w := w) (pa := pa) (fa := fa) (la := la) (pb := pb) (fb := fb) (lb := lb) 42 42)
  go_enter Tryz.func16, Tryz.ntmps16
  go_wp2_with fail
  refine (checkPair_any pa fa la pb fb lb 1 _ (.inr ⟨h, rfl⟩)).mono ?_
  rintro e w1 ⟨rfl, h1⟩
  go_wp2_with fail
  go_ret2
  exact ⟨rfl, (SS.below S0.out h1).2.2.2.2.2.2.2⟩

set_option maxHeartbeats 1000000 in
theorem first_none (pa fa la pb fb lb : Int) (w : World) (ha : TOk pa fa la) (hb : TOk pb fb lb) (h : kaB la ((fb - fa) % (Int.gcd pa pb : Int)) lb (Int.gcd pa pb) = true) :
    Calls Tryz.prog 16 #[tv pa fa la, tv pb fb lb] w fun e w' => e = .returned (.tuple #[.int .i64 0, .int .i64 5]) ∧ Below w.heap.size w w' := by
  have g1 := gcd_pos (b := pb) ha.1
  have g2 := gcd_le (b := pb) ha.1
  have a2 := ha.2.1
  have a1 := ha.1
  have b1 := hb.1
  have b2 := hb.2.1
  have S0 := Lib.hid (SS.new (w := w) (pa := pa) (fa := fa) (la := la) (pb := pb) (fb := fb) (lb := lb) 42 42)
  have D' := Lib.hid fun w => divisor_any pa pb w (by omega) (by omega) (by omega) (by omega)
  have K := fun w => keepsApart_any pa fa la pb fb lb (Int.gcd pa pb) w ha hb g1 (by omega)
  rw [h] at K
  have K' := Lib.hid K
  clear K h
  go_enter Tryz.func16, Tryz.ntmps16
  go_wp2_with fail
  refine (checkPair_any pa fa la pb fb lb 0 _ (.inl ⟨ha, hb, rfl⟩)).mono ?_
  rintro e w1 ⟨rfl, h1⟩
  have S1 := SS.below S0.out h1
  clear h1 S0
  have S1' := Lib.hid S1
  obtain ⟨t0, t1, t2, t3, t4, t5, t6, _⟩ := S1
  go_wp2_with fail
  go_region_held3 (SS w pa fa la pb fb lb) (first | exact SS.drewN S1'.out _ | exact SS.drew S1'.out | exact S2)
      (first
        | (go_at_call 48; refine (D'.out _).mono ?_; rintro e w' ⟨rfl, n, rfl⟩)
        | (go_at_call 47; refine (K'.out _).mono ?_; rintro e w2 ⟨rfl, h2⟩; have S2 := SS.below (SS.drewN S1'.out _) h2; clear h2))
  go_wp2_with fail
  go_ret2
  exact ⟨rfl, S2.2.2.2.2.2.2.2⟩
end Go.Proofs.YtcdodfehnkgjdaaGreatDoor
