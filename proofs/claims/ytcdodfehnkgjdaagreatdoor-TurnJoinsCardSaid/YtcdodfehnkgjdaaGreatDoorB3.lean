/- Contracts: First of the package and of the specification return the same. -/
import Derived.Test.YtcdodfehnkgjdaaGreatDoorB1
import Derived.Test.YtcdodfehnkgjdaaGreatDoorA5
namespace Go.Proofs.YtcdodfehnkgjdaaGreatDoor
open Go.RowKit

def FirstPost (pa fa la pb fb lb : Int) (w : World) (e : Ending) (w' : World) : Prop :=
  ∃ N c, FirstIs pa fa la pb fb lb N c ∧ e = .returned (.tuple #[.int .i64 N, .int .i64 c]) ∧ Below w.heap.size w w'

theorem first_ok (pa fa la pb fb lb : Int) (w : World) (ha : TOk pa fa la) (hb : TOk pb fb lb) :
    Calls Tryz.prog 16 #[tv pa fa la, tv pb fb lb] w (FirstPost pa fa la pb fb lb w) := by
  cases h : kaB la ((fb - fa) % (Int.gcd pa pb : Int)) lb (Int.gcd pa pb)
  · obtain ⟨n, _, n1, n2⟩ := meets ha hb h
    obtain ⟨N, h0, h1, h2, h3⟩ := first_least ha hb ⟨n1, n2⟩
    have hl := lcmF_le ha.1 hb.1 ha.2.1 hb.2.1
    refine (first_some pa fa la pb fb lb N w ha hb h h0 (by omega) h2.1 h2.2 h3).mono ?_
    rintro e w' ⟨rfl, hb'⟩
    exact ⟨N, 0, .inl ⟨rfl, h0, by omega, h2, h3⟩, rfl, hb'⟩
  · refine (first_none pa fa la pb fb lb w ha hb h).mono ?_
    rintro e w' ⟨rfl, hb'⟩
    exact ⟨0, 5, .inr ⟨rfl, rfl, fun m _ => apart_none ha hb (gcd_pos ha.1) (Int.gcd_dvd_left ..) (Int.gcd_dvd_right ..) h m⟩, rfl, hb'⟩

end Go.Proofs.YtcdodfehnkgjdaaGreatDoor
