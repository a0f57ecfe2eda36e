/- Contract of lane.from: the run that is kept, or a new one. -/
import Derived.Test.YtcdodfehnkgjdaaGreatDoorC3
import Derived.Test.YtcdodfehnkgjdaaGreatDoorA5
import Derived.Deep.Draws
namespace Go.Proofs.YtcdodfehnkgjdaaGreatDoor
open Go.RowKit

/-- A lane lies in block b: its lot, and the run that is kept. -/
def Lane (b : Nat) (x : Value) (lo hi : Int) (w : World) : Prop := w.heap[b]? = some (.cells #[x, .int .i64 lo, .int .i64 hi] 136 (0, 0))
section
variable {w w' : World} {b : Nat} {x : Value} {lo hi : Int}
theorem Lane.lt (h : Lane b x lo hi w) : b < w.heap.size := by
  unfold Lane at h
  exact (Array.getElem?_eq_some_iff.1 h).1
theorem Lane.c0 (h : Lane b x lo hi w) : w.cell? ⟨b, 0, none⟩ = some x := by unfold Lane at h; simp [World.cell?, h]
theorem Lane.c1 (h : Lane b x lo hi w) : w.cell? ⟨b, 1, none⟩ = some (.int .i64 lo) := by unfold Lane at h; simp [World.cell?, h]
theorem Lane.c2 (h : Lane b x lo hi w) : w.cell? ⟨b, 2, none⟩ = some (.int .i64 hi) := by unfold Lane at h; simp [World.cell?, h]
theorem Lane.fz (h : Lane b x lo hi w) (i : Nat) : w.frozen? ⟨b, i, none⟩ = false := by unfold Lane at h; simp [World.frozen?, h]
theorem Lane.same (h : Lane b x lo hi w) (hb : w'.heap[b]? = w.heap[b]?) : Lane b x lo hi w' := hb.trans h
theorem Lane.below {B : Nat} (h : Lane b x lo hi w) (hb : Below B w w') (hlt : b < B) : Lane b x lo hi w' := h.same (hb.block b hlt)
theorem Lane.run (h : Lane b x lo hi w) (lo' hi' : Int) : Lane b x lo' hi' ((w.setCell ⟨b, 1, none⟩ (.int .i64 lo')).setCell ⟨b, 2, none⟩ (.int .i64 hi')) := by
  unfold Lane at h ⊢
  simp [World.setCell, Array.getElem?_modify, h]
end
theorem grown_of_below {w w' : World} {r : Option Nat} (h : Below w.heap.size w w') : w.grownBy w' r := ⟨h.os, h.tape, h.output, h.size, fun k hk _ => h.block k hk⟩
theorem grown_set {w w' : World} {b i : Nat} (h : w.grownBy w' (some b)) (v : Value) : w.grownBy (w'.setCell ⟨b, i, none⟩ v) (some b) :=
  ⟨h.os, h.tape, h.output, by simpa [go_sem] using h.size, fun k hk hne => (Below.heap_setCell w' ⟨b, i, none⟩ v k (fun e => hne (by rw [e]))).trans (h.block k hk hne)⟩

/-- What lane.from leaves: the lane with another run, all else as it was. -/
def LanePost (b : Nat) (x : Value) (lo hi : Int) (w : World) (e : Ending) (w' : World) : Prop :=
  e = .returned (.agg #[.int .i64 lo, .int .i64 hi]) ∧ Lane b x lo hi w' ∧ w.grownBy w' (some b)

set_option maxHeartbeats 1000000 in
set_option maxRecDepth 100000 in
theorem laneFrom_kept (b : Nat) (x : Value) (lo hi n : Int) (w : World) (h : Lane b x lo hi w) (hn : n ≤ hi) :
    Calls Tryz.prog 104 #[.pointer (some ⟨b, 0, none⟩), .int .i64 n] w (LanePost b x lo hi w) := by
  have HL := Lib.hid h
  have h0 := h.c0
  have h1 := h.c1
  have h2 := h.c2
  have hlt := h.lt
  have k1 : (w.alloc (.cells #[.int .i64 0, .int .i64 0] 45)).cell? ⟨b, 1, none⟩ = some (.int .i64 lo) := (World.cell?_alloc_lt _ _ _ hlt).trans h1
  have k2 : (w.alloc (.cells #[.int .i64 0, .int .i64 0] 45)).cell? ⟨b, 2, none⟩ = some (.int .i64 hi) := (World.cell?_alloc_lt _ _ _ hlt).trans h2
  clear h
  go_enter Tryz.func104, Tryz.ntmps104
  go_wp2_with fail
  refine bodyPost_ret (v := .agg #[.int .i64 lo, .int .i64 hi]) (by simp [results, Tryz.results104, go_sem]) rfl ⟨rfl, ?_, ?_⟩
  · exact HL.out.same (Below.heap_alloc _ _ _ hlt)
  · exact grown_of_below ((Below.refl _ _).alloc (Nat.le_refl _) _)

set_option maxHeartbeats 2000000 in
set_option maxRecDepth 100000 in
theorem laneFrom_T (p f l : Int) (b : Nat) (lo0 hi0 n : Int) (w : World) (h0 : TOk p f l) (h3 : -1000000000000000 ≤ n) (h4 : n ≤ 1000000000000000) (h : Lane b (.iface 85 (tv p f l)) lo0 hi0 w) (hn : hi0 < n) :
    Calls Tryz.prog 104 #[.pointer (some ⟨b, 0, none⟩), .int .i64 n] w (LanePost b (.iface 85 (tv p f l)) (fromLo p f l n) (fromLo p f l n + l - 1) w) := by
  have C : Hid (∀ w, Calls Tryz.prog 49 #[.agg #[.int .i64 p, .int .i64 f, .int .i64 l], .int .i64 n] w fun e w' => e = .returned (.agg #[.int .i64 (fromLo p f l n), .int .i64 (fromLo p f l n + l - 1)]) ∧ Below w.heap.size w w') := Lib.hid fun w => from_any p f l n w h0 h3 h4
  generalize fromLo p f l n = z at *
  have hm := m_from_T p f l
  have HL := Lib.hid h
  have hlt := h.lt
  have hW : Lane b (.iface 85 (tv p f l)) lo0 hi0 (w.alloc (.cells #[.int .i64 0, .int .i64 0] 45)) := h.same (Below.heap_alloc _ _ _ hlt)
  have k0 := hW.c0
  have k1 := hW.c1
  have k2 := hW.c2
  have HW := Lib.hid hW
  clear h hW
  go_enter Tryz.func104, Tryz.ntmps104
  go_wp2_with fail
  refine (C.out _).mono ?_
  rintro e w4 ⟨rfl, h4⟩
  have hz := h4.size
  rw [World.size_alloc] at hz
  have L4 := HW.out.below h4 (by simp; omega)
  have kf := L4.fz
  have kc := L4.c0
  have kd1 := L4.c1
  have kd2 := L4.c2
  have hlt4 : b < w4.heap.size := by omega
  have R4 : w4.cell? ⟨w.heap.size, 0, none⟩ = some (.int .i64 0) := (h4.cell (p := ⟨w.heap.size, 0, none⟩) (by simp)).trans (by simp [go_sem])
  have R5 : w4.cell? ⟨w.heap.size, 1, none⟩ = some (.int .i64 0) := (h4.cell (p := ⟨w.heap.size, 1, none⟩) (by simp)).trans (by simp [go_sem])
  have R6 : w4.frozen? ⟨w.heap.size, 0, none⟩ = false := (h4.frozen (p := ⟨w.heap.size, 0, none⟩) (by simp)).trans (by simp [go_sem])
  have R7 : w4.frozen? ⟨w.heap.size, 1, none⟩ = false := (h4.frozen (p := ⟨w.heap.size, 1, none⟩) (by simp)).trans (by simp [go_sem])
  have hne : b ≠ w.heap.size := by omega
  have hne' : w.heap.size ≠ b := by omega
  have N4 := Lib.hid L4
  have B4 := Lib.hid (((Below.refl w.heap.size w).alloc (Nat.le_refl _) (.cells #[.int .i64 0, .int .i64 0] 45)).trans (h4.mono (by simp)))
  clear h4
  have q1 := (N4.out.run z (z + l - 1)).c1
  have q2 := (N4.out.run z (z + l - 1)).c2
  go_wp2_with fail
  have T5 : Two w.heap.size (.int .i64 0) (.int .i64 0) ((w4.setCell ⟨b, 1, none⟩ (.int .i64 z)).setCell ⟨b, 2, none⟩ (.int .i64 (z + l - 1))) :=
    Two.other (Two.other ⟨R4, R5, by omega⟩ hne' _) hne' _
  obtain ⟨q3, q4, _⟩ := Two.set T5 (.int .i64 z) (.int .i64 (z + l - 1))
  refine bodyPost_ret (v := .agg #[.int .i64 z, .int .i64 (z + l - 1)]) (by simp [results, Tryz.results104, go_sem, q3, q4]) rfl ⟨rfl, ?_, ?_⟩
  · refine ((N4.out.run z (z + l - 1)).same ?_)
    rw [Below.heap_setCell _ ⟨w.heap.size, 1, none⟩ _ _ hne, Below.heap_setCell _ ⟨w.heap.size, 0, none⟩ _ _ hne]
  · have g1 := grown_set (i := 2) (grown_set (i := 1) (grown_of_below (r := some b) B4.out) (.int .i64 z)) (.int .i64 (z + l - 1))
    exact ⟨g1.os, g1.tape, g1.output, by simpa [go_sem] using g1.size, fun k hk hn => (Below.heap_setCell _ ⟨w.heap.size, 1, none⟩ _ _ (by simp; omega)).trans ((Below.heap_setCell _ ⟨w.heap.size, 0, none⟩ _ _ (by simp; omega)).trans (g1.block k hk hn))⟩

set_option maxHeartbeats 2000000 in
set_option maxRecDepth 100000 in
theorem laneFrom_S (lo hi : Int) (b : Nat) (lo0 hi0 n : Int) (w : World) (h : Lane b (.iface 121 (sv2 lo hi)) lo0 hi0 w) (hn : hi0 < n) :
    Calls Tryz.prog 104 #[.pointer (some ⟨b, 0, none⟩), .int .i64 n] w (LanePost b (.iface 121 (sv2 lo hi)) (sFrom lo hi n) (sFromHi hi n) w) := by
  have C : Hid (∀ w, Calls Tryz.prog 138 #[.agg #[.int .i64 lo, .int .i64 hi], .int .i64 n] w fun e w' => e = .returned (.agg #[.int .i64 (sFrom lo hi n), .int .i64 (sFromHi hi n)]) ∧ Below w.heap.size w w') := Lib.hid fun w => sfrom_any lo hi n w
  generalize sFrom lo hi n = z at *
  generalize sFromHi hi n = z2 at *
  have hm := m_from_S lo hi
  have HL := Lib.hid h
  have hlt := h.lt
  have hW : Lane b (.iface 121 (sv2 lo hi)) lo0 hi0 (w.alloc (.cells #[.int .i64 0, .int .i64 0] 45)) := h.same (Below.heap_alloc _ _ _ hlt)
  have k0 := hW.c0
  have k1 := hW.c1
  have k2 := hW.c2
  have HW := Lib.hid hW
  clear h hW
  go_enter Tryz.func104, Tryz.ntmps104
  go_wp2_with fail
  refine (C.out _).mono ?_
  rintro e w4 ⟨rfl, h4⟩
  have hz := h4.size
  rw [World.size_alloc] at hz
  have L4 := HW.out.below h4 (by simp; omega)
  have kf := L4.fz
  have kc := L4.c0
  have kd1 := L4.c1
  have kd2 := L4.c2
  have hlt4 : b < w4.heap.size := by omega
  have R4 : w4.cell? ⟨w.heap.size, 0, none⟩ = some (.int .i64 0) := (h4.cell (p := ⟨w.heap.size, 0, none⟩) (by simp)).trans (by simp [go_sem])
  have R5 : w4.cell? ⟨w.heap.size, 1, none⟩ = some (.int .i64 0) := (h4.cell (p := ⟨w.heap.size, 1, none⟩) (by simp)).trans (by simp [go_sem])
  have R6 : w4.frozen? ⟨w.heap.size, 0, none⟩ = false := (h4.frozen (p := ⟨w.heap.size, 0, none⟩) (by simp)).trans (by simp [go_sem])
  have R7 : w4.frozen? ⟨w.heap.size, 1, none⟩ = false := (h4.frozen (p := ⟨w.heap.size, 1, none⟩) (by simp)).trans (by simp [go_sem])
  have hne : b ≠ w.heap.size := by omega
  have hne' : w.heap.size ≠ b := by omega
  have N4 := Lib.hid L4
  have B4 := Lib.hid (((Below.refl w.heap.size w).alloc (Nat.le_refl _) (.cells #[.int .i64 0, .int .i64 0] 45)).trans (h4.mono (by simp)))
  clear h4
  have q1 := (N4.out.run z z2).c1
  have q2 := (N4.out.run z z2).c2
  go_wp2_with fail
  have T5 : Two w.heap.size (.int .i64 0) (.int .i64 0) ((w4.setCell ⟨b, 1, none⟩ (.int .i64 z)).setCell ⟨b, 2, none⟩ (.int .i64 z2)) :=
    Two.other (Two.other ⟨R4, R5, by omega⟩ hne' _) hne' _
  obtain ⟨q3, q4, _⟩ := Two.set T5 (.int .i64 z) (.int .i64 z2)
  refine bodyPost_ret (v := .agg #[.int .i64 z, .int .i64 z2]) (by simp [results, Tryz.results104, go_sem, q3, q4]) rfl ⟨rfl, ?_, ?_⟩
  · refine ((N4.out.run z z2).same ?_)
    rw [Below.heap_setCell _ ⟨w.heap.size, 1, none⟩ _ _ hne, Below.heap_setCell _ ⟨w.heap.size, 0, none⟩ _ _ hne]
  · have g1 := grown_set (i := 2) (grown_set (i := 1) (grown_of_below (r := some b) B4.out) (.int .i64 z)) (.int .i64 z2)
    exact ⟨g1.os, g1.tape, g1.output, by simpa [go_sem] using g1.size, fun k hk hn => (Below.heap_setCell _ ⟨w.heap.size, 1, none⟩ _ _ (by simp; omega)).trans ((Below.heap_setCell _ ⟨w.heap.size, 0, none⟩ _ _ (by simp; omega)).trans (g1.block k hk hn))⟩

end Go.Proofs.YtcdodfehnkgjdaaGreatDoor
