/- Contract of the specification's SameSpans. -/
import Derived.Test.YtcdodfehnkgjdaaGreatDoorE6
namespace Go.Proofs.YtcdodfehnkgjdaaGreatDoor
open Go.RowKit

theorem sameB_at {a b : List S2} {k : Nat} (h1 : k < a.length) (h2 : k < b.length) : a = b → a[k] = b[k] := by
  intro e; subst e; rfl

set_option maxHeartbeats 4000000 in
set_option maxRecDepth 1000000 in
theorem sameSpans_any (va vb : Value) (a b : List S2) (w : World) (ha : RS w.heap.size va a w) (hb : RS w.heap.size vb b w) :
    Calls Tryz.prog 25 #[va, vb] w fun e w' => e = .returned (.bool (decide (a = b))) ∧ Below w.heap.size w w' := by
  obtain ⟨A, ca, rfl, n1, hx⟩ := ha
  obtain ⟨A', ca', rfl, n2, hy⟩ := hb
  have HX := Lib.hid hx
  have HY := Lib.hid hy
  clear hx hy
  by_cases hl : a.length = b.length
  · have hne : ((a.length : Int) == (b.length : Int)) = true := by simp; omega
    have hne' : ((a.length : Int) != (b.length : Int)) = false := by simp; omega
    have HL := Lib.hid hl
    clear hl
    go_enter Tryz.func25, Tryz.ntmps25
    go_wp2_with fail
    go_loopw [5] (fun u wr => ∃ k : Nat, u = .int .i64 k ∧ k ≤ a.length ∧ (∀ j, j < k → a[j]? = b[j]?) ∧ Below w.heap.size w wr) (fun u _ => a.length - (intOf u).toNat)
    case atStart => exact ⟨0, rfl, by omega, (fun j hj => by omega), Below.refl _ _⟩
    case round =>
      obtain ⟨k, rfl, hk, hs, hB⟩ := hrel
      have HSm := Lib.hid hs
      have HB := Lib.hid hB
      clear hs hB
      by_cases hkn : k < a.length
      · obtain ⟨b1, o1, rfl, l1, q1⟩ := HX.out (by omega)
        obtain ⟨b2, o2, rfl, l2, q2⟩ := HY.out (by have := HL.out; omega)
        obtain ⟨x1, x2, hx⟩ : ∃ x1 x2, a[k]? = some (x1, x2) := ⟨_, _, List.getElem?_eq_getElem hkn⟩
        obtain ⟨y1, y2, hy⟩ : ∃ y1 y2, b[k]? = some (y1, y2) := ⟨_, _, List.getElem?_eq_getElem (by have := HL.out; omega)⟩
        have hk0 : (k : Int) < (a.length : Int) := by omega
        have hk1 : (k : Int) < (b.length : Int) := by have := HL.out; omega
        obtain ⟨r1, r2⟩ := q1 k x1 x2 hx
        obtain ⟨r3, r4⟩ := q2 k y1 y2 hy
        have c1 := (HB.out.cell (p := ⟨b1, o1 + k * 2, none⟩) l1).trans r1
        have c2 := (HB.out.cell (p := ⟨b1, o1 + k * 2 + 1, none⟩) l1).trans r2
        have c3 := (HB.out.cell (p := ⟨b2, o2 + k * 2, none⟩) l2).trans r3
        have c4 := (HB.out.cell (p := ⟨b2, o2 + k * 2 + 1, none⟩) l2).trans r4
        have HXk := Lib.hid hx
        have HYk := Lib.hid hy
        clear q1 q2 r1 r2 r3 r4 hx hy
        by_cases e : (x1, x2) = (y1, y2)
        · obtain ⟨rfl, rfl⟩ : x1 = y1 ∧ x2 = y2 := by simpa using e
          clear e
          go_wp2_with fail
          go_region
          all_goals go_wp2_with fail
          all_goals go_roundw
          case rel =>
            refine ⟨k + 1, by go_num, by omega, ?_, HB.out.trans ⟨rfl, rfl, rfl, Nat.le_refl _, fun _ _ => rfl⟩⟩
            intro j hj
            by_cases hjk : j < k
            · exact HSm.out j hjk
            · obtain rfl : j = k := by omega
              rw [HXk.out, HYk.out]
          case measure => show a.length - ((k : Int) + 1).toNat < a.length - (k : Int).toNat; omega
        · have HF : Hid (decide (a = b) = false) := Lib.hid (by
            simp
            intro h
            subst h
            exact e (Option.some.inj (HXk.out.symm.trans HYk.out)))
          have HNE := Lib.hid e
          clear e
          by_cases e1 : x1 = y1
          · subst e1
            have e2 : ¬ x2 = y2 := fun h => HNE.out (by rw [h])
            go_wp2_with fail
            go_region
            all_goals go_wp2_with fail
            all_goals go_ret
            all_goals exact ⟨by rw [HF.out]; rfl, HB.out.trans ⟨rfl, rfl, rfl, Nat.le_refl _, fun _ _ => rfl⟩⟩
          · go_wp2_with fail
            go_region
            all_goals go_wp2_with fail
            all_goals go_ret
            all_goals exact ⟨by rw [HF.out]; rfl, HB.out.trans ⟨rfl, rfl, rfl, Nat.le_refl _, fun _ _ => rfl⟩⟩
      · have hk0 : (a.length : Int) ≤ (k : Int) := by omega
        have HE : Hid (decide (a = b) = true) := Lib.hid (by
          simp
          apply List.ext_getElem?
          intro i
          by_cases hi : i < k
          · exact HSm.out i hi
          · rw [List.getElem?_eq_none (by omega), List.getElem?_eq_none (by have := HL.out; omega)])
        go_wp2_with fail
        go_ret
        exact ⟨by rw [HE.out]; rfl, HB.out⟩
  · have hne' : ((a.length : Int) != (b.length : Int)) = true := by simp; omega
    have HF : Hid (decide (a = b) = false) := Lib.hid (by simp; intro e; subst e; exact hl rfl)
    clear hl
    go_enter Tryz.func25, Tryz.ntmps25
    go_wp2_with fail
    go_ret
    exact ⟨by rw [HF.out]; rfl, Below.refl _ _⟩
end Go.Proofs.YtcdodfehnkgjdaaGreatDoor
