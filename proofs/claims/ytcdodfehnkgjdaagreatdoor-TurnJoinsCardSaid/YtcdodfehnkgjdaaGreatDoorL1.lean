/- The law TurnParts, its calls met by their contracts; sanity is a hypothesis here. -/
import Derived.Test.YtcdodfehnkgjdaaGreatDoorB2
import Derived.Test.YtcdodfehnkgjdaaGreatDoorB4
namespace Go.Proofs.YtcdodfehnkgjdaaGreatDoor
open Go.RowKit

theorem ApartIs.unique {pa fa la pb fb lb G m m' : Int} {b b' : Bool} (h : ApartIs pa fa la pb fb lb G m b) (h' : ApartIs pa fa la pb fb lb G m' b') : m = m' ∧ b = b' := by
  rcases h with ⟨rfl, h0, h1, h2, h3⟩ | ⟨rfl, rfl, h3⟩ <;> rcases h' with ⟨rfl, k0, k1, k2, k3⟩ | ⟨rfl, rfl, k3⟩
  · refine ⟨?_, rfl⟩
    have a : ¬ m < m' := fun c => by have := k3 m h0 c; rw [h2] at this; cases this
    have b : ¬ m' < m := fun c => by have := h3 m' k0 c; rw [k2] at this; cases this
    omega
  · have := k3 m h0 h1; rw [h2] at this; cases this
  · have := h3 m' k0 k1; rw [k2] at this; cases this
  · exact ⟨rfl, rfl⟩
theorem ApartIs.exists_ (pa fa la pb fb lb G : Int) : ∃ m b, ApartIs pa fa la pb fb lb G m b := by
  by_cases h : ∃ k : Int, 0 ≤ k ∧ k ≤ G ∧ apB pa fa la pb fb lb k = true
  · obtain ⟨k, k0, k1, k2⟩ := h
    obtain ⟨N, n0, n1, n2, n3⟩ := least_int (fun k => apB pa fa la pb fb lb k = true) k k0 k2
    exact ⟨N, true, .inl ⟨rfl, n0, by omega, n2, fun j j0 j1 => by simpa using n3 j j0 j1⟩⟩
  · exact ⟨0, false, .inr ⟨rfl, rfl, fun k k0 k1 => by
      cases e : apB pa fa la pb fb lb k
      · rfl
      · exact absurd ⟨k, k0, k1, e⟩ h⟩⟩

theorem Three.below {b : Nat} {x y z : Value} {W W' : World} (h : Three b x y z W) (hb : Below W.heap.size W W') (hlt : b < W.heap.size) : Three b x y z W' :=
  ⟨(hb.cell (p := ⟨b, 0, none⟩) hlt).trans h.1, (hb.cell (p := ⟨b, 1, none⟩) hlt).trans h.2.1, (hb.cell (p := ⟨b, 2, none⟩) hlt).trans h.2.2⟩
/-- What the last statement reads: both turns, and both parts. -/
abbrev LA (w : World) (pa fa la pb fb lb : Int) (g g' : Nat) (x y z : Int) (W : World) : Prop :=
  W.cell? ⟨g, 0, none⟩ = some (.int .i64 x) ∧ W.cell? ⟨g, 1, none⟩ = some (.int .i64 y) ∧ W.cell? ⟨g, 2, none⟩ = some (.int .i64 z) ∧
  W.cell? ⟨g', 0, none⟩ = some (.int .i64 x) ∧ W.cell? ⟨g', 1, none⟩ = some (.int .i64 y) ∧ W.cell? ⟨g', 2, none⟩ = some (.int .i64 z) ∧ g < W.heap.size ∧ g' < W.heap.size ∧ SS w pa fa la pb fb lb W
def LAd (w : World) (pa fa la pb fb lb : Int) (g g' : Nat) (x y z : Int) (W : World) : Prop := LA w pa fa la pb fb lb g g' x y z W
section
variable {w W W' : World} {pa fa la pb fb lb x y z : Int} {g g' : Nat}
theorem LAd.out (h : LAd w pa fa la pb fb lb g g' x y z W) : LA w pa fa la pb fb lb g g' x y z W := h
theorem LAd.below (h : LAd w pa fa la pb fb lb g g' x y z W) (hb : Below W.heap.size W W') : LAd w pa fa la pb fb lb g g' x y z W' := by
  obtain ⟨a0, a1, a2, b0, b1, b2, l1, l2, hs⟩ := h.out
  obtain ⟨c0, c1, c2⟩ := Three.below ⟨a0, a1, a2⟩ hb l1
  obtain ⟨d0, d1, d2⟩ := Three.below ⟨b0, b1, b2⟩ hb l2
  exact ⟨c0, c1, c2, d0, d1, d2, Nat.lt_of_lt_of_le l1 hb.size, Nat.lt_of_lt_of_le l2 hb.size, SS.below hs hb⟩
theorem LAd.bel (h : LAd w pa fa la pb fb lb g g' x y z W) : Below w.heap.size w W := by
  obtain ⟨_, _, _, _, _, _, _, _, hs⟩ := h.out
  exact hs.2.2.2.2.2.2.2
theorem LAd.drew (h : LAd w pa fa la pb fb lb g g' x y z W) : LAd w pa fa la pb fb lb g g' x y z W.drew := h.below (Below.refl _ _).drew
end

end Go.Proofs.YtcdodfehnkgjdaaGreatDoor
