/- Contracts of Part, of the package and of the specification. -/
import Derived.Test.YtcdodfehnkgjdaaGreatDoorB1
namespace Go.Proofs.YtcdodfehnkgjdaaGreatDoor
open Go.RowKit

/-- A turn lies in the block that was new at w, a result in the next one. -/
abbrev SP (w : World) (p f l : Int) (W : World) : Prop :=
    W.cell? ⟨w.heap.size, 0, none⟩ = some (.int .i64 p) ∧ W.cell? ⟨w.heap.size, 1, none⟩ = some (.int .i64 f) ∧ W.cell? ⟨w.heap.size, 2, none⟩ = some (.int .i64 l)

def Three (b : Nat) (x y z : Value) (W : World) : Prop := W.cell? ⟨b, 0, none⟩ = some x ∧ W.cell? ⟨b, 1, none⟩ = some y ∧ W.cell? ⟨b, 2, none⟩ = some z
theorem Three.set {b : Nat} {x y z : Value} {W : World} (h : Three b x y z W) (x' y' z' : Value) :
    Three b x' y' z' (((W.setCell ⟨b, 0, none⟩ x').setCell ⟨b, 1, none⟩ y').setCell ⟨b, 2, none⟩ z') := by
  have n01 : (⟨b, 0, none⟩ : Addr) ≠ ⟨b, 1, none⟩ := by intro e; cases e
  have n02 : (⟨b, 0, none⟩ : Addr) ≠ ⟨b, 2, none⟩ := by intro e; cases e
  have n12 : (⟨b, 1, none⟩ : Addr) ≠ ⟨b, 2, none⟩ := by intro e; cases e
  refine ⟨?_, ?_, ?_⟩
  · rw [World.cell?_setCell_other _ _ _ _ n02.symm, World.cell?_setCell_other _ _ _ _ n01.symm]
    exact World.cell?_setCell_same' _ _ _ (by rw [h.1]; rfl)
  · rw [World.cell?_setCell_other _ _ _ _ n12.symm]
    exact World.cell?_setCell_same' _ _ _ (by rw [World.cell?_setCell_other _ _ _ _ n01, h.2.1]; rfl)
  · exact World.cell?_setCell_same' _ _ _ (by rw [World.cell?_setCell_other _ _ _ _ n12, World.cell?_setCell_other _ _ _ _ n02, h.2.2]; rfl)
theorem Three.off {b g : Nat} {x y z : Value} {W : World} (h : Three b x y z W) (hg : b ≠ g) (x' y' z' : Value) :
    Three b x y z (((W.setCell ⟨g, 0, none⟩ x').setCell ⟨g, 1, none⟩ y').setCell ⟨g, 2, none⟩ z') := by
  have n : ∀ i j, (⟨b, i, none⟩ : Addr) ≠ ⟨g, j, none⟩ := fun i j e => hg (by cases e; rfl)
  refine ⟨?_, ?_, ?_⟩
  · rw [World.cell?_setCell_other _ _ _ _ (n _ _).symm, World.cell?_setCell_other _ _ _ _ (n _ _).symm, World.cell?_setCell_other _ _ _ _ (n _ _).symm]; exact h.1
  · rw [World.cell?_setCell_other _ _ _ _ (n _ _).symm, World.cell?_setCell_other _ _ _ _ (n _ _).symm, World.cell?_setCell_other _ _ _ _ (n _ _).symm]; exact h.2.1
  · rw [World.cell?_setCell_other _ _ _ _ (n _ _).symm, World.cell?_setCell_other _ _ _ _ (n _ _).symm, World.cell?_setCell_other _ _ _ _ (n _ _).symm]; exact h.2.2

def partOk (l fr lg : Int) : Prop := 0 ≤ fr ∧ 1 ≤ lg ∧ lg ≤ l ∧ fr ≤ l - lg

theorem not_part {l fr lg : Int} (h : ¬ partOk l fr lg) : fr < 0 ∨ (0 ≤ fr ∧ lg < 1) ∨ (0 ≤ fr ∧ 1 ≤ lg ∧ l < lg) ∨ (0 ≤ fr ∧ 1 ≤ lg ∧ lg ≤ l ∧ l - lg < fr) := by
  unfold partOk at h; omega

theorem not_partr {l fr lg : Int} (h : ¬ partOk l fr lg) : fr < 0 ∨ (0 ≤ fr ∧ lg < 1) ∨ (0 ≤ fr ∧ 1 ≤ lg ∧ l < fr) ∨ (0 ≤ fr ∧ 1 ≤ lg ∧ fr ≤ l ∧ l - fr < lg) := by
  unfold partOk at h; omega

end Go.Proofs.YtcdodfehnkgjdaaGreatDoor
