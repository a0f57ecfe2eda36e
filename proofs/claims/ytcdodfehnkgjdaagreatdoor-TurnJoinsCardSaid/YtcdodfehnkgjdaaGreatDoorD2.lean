/- Contracts of the lanes: lane.from whatever the lot, the closure of sweep.next, the least over lanes. -/
import Derived.Test.YtcdodfehnkgjdaaGreatDoorD1
namespace Go.Proofs.YtcdodfehnkgjdaaGreatDoor
open Go.RowKit

def Lot.val (x : Lot) : Value := if x.kind then .iface 85 (tv x.a x.b x.c) else .iface 121 (sv2 x.a x.b)

theorem laneFrom_any (x : Lot) (hx : x.ok) (b : Nat) (lo hi P n : Int) (w : World) (h : Lane b x.val lo hi w) (hk : x.kept lo hi P) (h1 : P ≤ n) (h2 : 0 ≤ n) (h3 : n ≤ 1048577) :
    Calls Tryz.prog 104 #[.pointer (some ⟨b, 0, none⟩), .int .i64 n] w (LanePost b x.val (x.lo n) (x.hi n) w) := by
  by_cases c : hi < n
  · obtain ⟨k, p, f, l⟩ := x
    cases k
    · exact laneFrom_S p f b lo hi n w h c
    · exact laneFrom_T p f l b lo hi n w hx (by omega) (by omega) h c
  · obtain ⟨rfl, rfl⟩ := Lot.kept_ask hx hk h1 (by omega) (by omega)
    exact laneFrom_kept b x.val _ _ n w h (by omega)

/-- What the closure of sweep.next leaves. -/
def StepPost (b : Nat) (v : Value) (z z2 n : Int) (w : World) (e : Ending) (w' : World) : Prop :=
  e = .returned (.int .i64 (mx z n)) ∧ Lane b v z z2 w' ∧ w.grownBy w' (some b)

set_option maxHeartbeats 1000000 in
set_option maxRecDepth 100000 in
theorem step_any (x : Lot) (hx : x.ok) (b g : Nat) (lo hi P n : Int) (w : World) (h : Lane b x.val lo hi w) (hk : x.kept lo hi P) (h1 : P ≤ n) (h2 : 0 ≤ n) (h3 : n ≤ 1048577)
    (hc : w.cell? ⟨g, 0, none⟩ = some (.int .i64 n)) (_hg : g < w.heap.size) (hne : g ≠ b) :
    Calls Tryz.prog 103 #[.pointer (some ⟨b, 0, none⟩), .pointer (some ⟨g, 0, none⟩)] w (StepPost b x.val (x.lo n) (x.hi n) n w) := by
  have C := Lib.hid fun w h => laneFrom_any x hx b lo hi P n w h hk h1 h2 h3
  have HL := Lib.hid h
  have HM : Hid (mx (x.lo n) n = if x.lo n < n then n else x.lo n) := Lib.hid rfl
  clear h
  generalize x.lo n = z at *
  generalize x.hi n = z2 at *
  have hf0 := fld0
  by_cases c : z < n
  all_goals
    go_enter Tryz.func103, Tryz.ntmps103
    go_wp2_with fail
    go_region_held3 (fun W => W.cell? ⟨g, 0, none⟩ = some (.int .i64 n)) ((first | exact hc | exact hc4)) (first | (go_at_call 104; refine (C.out w.drew (HL.out.same rfl)).mono ?_; rintro e w4 ⟨rfl, hl4, hg4⟩; have hc4 := hg4.cell (a := ⟨g, 0, none⟩) hc (by intro e; exact hne (Option.some.inj e)); have HL4 := Lib.hid hl4; have HG4 : Hid (w.grownBy w4 (some b)) := Lib.hid ⟨hg4.os, hg4.tape, hg4.output, hg4.size, hg4.block⟩; clear hl4 hg4))
    go_wp2_with fail
    go_ret
  · exact ⟨ret_int (by rw [HM.out, if_pos c]), HL4.out, HG4.out⟩
  · exact ⟨ret_int (by rw [HM.out, if_neg (by omega)]), HL4.out, HG4.out⟩
end Go.Proofs.YtcdodfehnkgjdaaGreatDoor
