/- Contracts: First of the package and of the specification return the same. -/
import Derived.Test.YtlhgpeelenelbaaDoorB1
import Derived.Test.YtlhgpeelenelbaaDoorA5
namespace Go.Proofs.YtlhgpeelenelbaaDoor
open Go.RowKit

def FirstPost (pa fa la pb fb lb : Int) (w : World) (e : Ending) (w' : World) : Prop :=
  ∃ N c, FirstIs pa fa la pb fb lb N c ∧ e = .returned (.tuple #[.int .i64 N, .int .i64 c]) ∧ Below w.heap.size w w'

theorem first_ok (pa fa la pb fb lb : Int) (w : World) (ha : TOk pa fa la) (hb : TOk pb fb lb) :
    Calls Tryd.prog 27 #[tv pa fa la, tv pb fb lb] w (FirstPost pa fa la pb fb lb w) := by
  cases h : kaB la ((fb - fa) % (Int.gcd pa pb : Int)) lb (Int.gcd pa pb)
  · obtain ⟨n, _, n1, n2⟩ := meets ha hb h
    obtain ⟨N, h0, h1, h2, h3⟩ := first_least ha hb ⟨n1, n2⟩
    have hl := lcmF_le ha.1 hb.1 ha.2.1 hb.2.1
    refine (first_some pa fa la pb fb lb N w ha hb h h0 (by omega) h2.1 h2.2 h3).mono ?_
    rintro e w' ⟨rfl, hb'⟩
    exact ⟨N, 0, .inl ⟨rfl, h0, by omega, h2, h3⟩, rfl, hb'⟩
  · refine (first_none pa fa la pb fb lb w ha hb h).mono ?_
    rintro e w' ⟨rfl, hb'⟩
    exact ⟨0, 5, .inr ⟨rfl, rfl, fun m _ => apart_none ha hb (gcd_pos ha.1) (Int.gcd_dvd_left ..) (Int.gcd_dvd_right ..) h m⟩, rfl, hb'⟩

set_option maxHeartbeats 1000000 in
theorem rfirst_bad (pa fa la pb fb lb : Int) (w : World) (h : ¬ TOk pa fa la ∨ ¬ TOk pb fb lb) :
    Calls Tryd.prog 28 #[tv pa fa la, tv pb fb lb] w fun e w' => e = .returned (.tuple #[.int .i64 0, .int .i64 1]) ∧ Below w.heap.size w w' := by
  have S0 := Lib.hid (SS.new (w := w) (pa := pa) (fa := fa) (la := la) (pb := pb) (fb := fb) (lb := lb) 27 27)
  go_enter Tryd.func28, Tryd.ntmps28
  go_wp2_with fail
  refine (rpair_any pa fa la pb fb lb 1 _ (.inr ⟨h, rfl⟩)).mono ?_
  rintro e w1 ⟨rfl, h1⟩
  go_wp2_with fail
  go_ret2
  exact ⟨rfl, (SS.below S0.out h1).2.2.2.2.2.2.2⟩

set_option maxHeartbeats 2000000 in
theorem rfirst_ok (pa fa la pb fb lb : Int) (w : World) (ha : TOk pa fa la) (hb : TOk pb fb lb) :
    Calls Tryd.prog 28 #[tv pa fa la, tv pb fb lb] w (FirstPost pa fa la pb fb lb w) := by
  have l1 := lcmF_pos ha.1 hb.1
  have l2 := lcmF_le ha.1 hb.1 ha.2.1 hb.2.1
  have l3 := lcmF_dvd_left pa pb
  obtain ⟨a1, a2, a3, a4, a5, a6⟩ := id ha
  obtain ⟨b1, b2, b3, b4, b5, b6⟩ := id hb
  have S0 := Lib.hid (SS.new (w := w) (pa := pa) (fa := fa) (la := la) (pb := pb) (fb := fb) (lb := lb) 27 27)
  have M := fun w => rmultiple_any pa pb w (by omega) (by omega) (by omega) (by omega)
  have HN := Lib.hid (@none_of_below pa fa la pb fb lb ha hb)
  change ∀ w, Calls Tryd.prog 83 #[.int .i64 pa, .int .i64 pb] w fun e w' => e = .returned (.int .i64 (lcmF pa pb)) ∧ w = w' at M
  generalize lcmF pa pb = L at *
  have M' := Lib.hid M
  obtain ⟨q, hq⟩ := l3
  have hz : (pa == 0) = false := beq_eq_false_iff_ne.2 (by omega)
  have dq : L / pa = q := by rw [hq]; exact Int.mul_ediv_cancel_left _ (by omega)
  have q1 : 1 ≤ q := Int.not_lt.1 fun h => by
    have : pa * q ≤ pa * 0 := Int.mul_le_mul_of_nonneg_left (by omega) (by omega)
    omega
  have q2 : q ≤ L := by rw [← dq]; exact Int.ediv_le_self _ (by omega)
  have DQ := Lib.hid dq
  have HQ := Lib.hid hq
  clear M hq dq
  go_enter Tryd.func28, Tryd.ntmps28
  go_wp2_with fail
  refine (rpair_any pa fa la pb fb lb 0 _ (.inl ⟨ha, hb, rfl⟩)).mono ?_
  rintro e w1 ⟨rfl, h1⟩
  have S1 := SS.below S0.out h1
  clear h1 S0
  have S1' := Lib.hid S1
  obtain ⟨t0, t1, t2, t3, t4, t5, t6, _⟩ := S1
  go_wp2_with fail
  go_quiet ((go_at_call 83; exact Calls.quiet_of_same (flip_same (M'.out _))))
  have S2' := Lib.hid (SS.drewN S1'.out nq)
  clear t0 t1 t2 t3 t4 t5 t6
  go_wp2_with fail
  rw [DQ.out]
  go_loopw [8] (fun v wr => ∃ k : Int, v = .int .i64 k ∧ -1 ≤ k ∧ k ≤ q + 1 ∧ (∀ m, 0 ≤ m → m < fa + k * pa → ¬ both pa fa la pb fb lb m) ∧ SS w pa fa la pb fb lb wr) (fun v _ => (q + 1 - intOf v).toNat)
  case atStart => exact ⟨-1, rfl, by omega, by omega, fun m _ _ => by omega, S2'.out⟩
  case round =>
    obtain ⟨k, rfl, hk0, hk1, hl, S3⟩ := hrel
    have Hl := Lib.hid hl
    clear hl
    have S3' := Lib.hid S3
    obtain ⟨t0, t1, t2, t3, t4, t5, t6, _⟩ := S3
    have c0 : -pa ≤ k * pa := by
      have := Int.mul_le_mul_of_nonneg_right hk0 (show 0 ≤ pa by omega); omega
    by_cases hlt : k ≤ q
    · have c1 : k * pa ≤ L := by
        have := Int.mul_le_mul_of_nonneg_right hlt (show 0 ≤ pa by omega)
        rw [HQ.out, Int.mul_comm pa q]; exact this
      have hs : (fa + k * pa - fa) % pa = 0 := by
        rw [show fa + k * pa - fa = k * pa by omega]; exact Int.mul_emod_left _ _
      have e1 : (k + 1) * pa = k * pa + pa := by rw [Int.add_mul]; omega
      have E1 := Lib.hid e1
      have ST := fun x n => @rfirst_step pa fa la pb fb lb (fa + k * pa) x n ha hs
      have ST' := Lib.hid ST
      clear ST hs e1
      by_cases cs : 0 < fa + k * pa
      · obtain ⟨y1, y2, y3, y4⟩ := afterF_spec (n := fa + k * pa) hb
        have A := fun w => after_any pb fb lb (fa + k * pa) w hb (by omega) (by omega)
        have st := ST'.out (fa + k * pa) (afterF pb fb lb (fa + k * pa)) (by rw [if_pos cs]) Hl.out y1 y3 y4
        generalize afterF pb fb lb (fa + k * pa) = n at *
        have A' := Lib.hid A
        have st' := Lib.hid st
        clear A st y4 y3
        by_cases cn : n ≤ fa + k * pa + la - 1
        all_goals
          go_wp2_with fail
          refine (A'.out _).mono ?_
          rintro e w4 ⟨rfl, h4⟩
          have S4' := Lib.hid (SS.below S3'.out h4)
          clear h4 t0 t1 t2 t3 t4 t5 t6
          go_wp2_with fail
        · go_ret2
          obtain ⟨u1, u2, u3⟩ := st'.out.1 cn
          exact ⟨n, 0, .inl ⟨rfl, u1, by omega, u2, u3⟩, rfl, S4'.out.2.2.2.2.2.2.2⟩
        · go_roundw
          case rel => exact ⟨k + 1, rfl, by omega, by omega, by rw [E1.out]; intro m m0 m1; exact st'.out.2 (by omega) m m0 (by omega), S4'.out⟩
          case measure => show (q + 1 - (k + 1)).toNat < (q + 1 - k).toNat; omega
      · obtain ⟨y1, y2, y3, y4⟩ := afterF_spec (n := 0) hb
        have A := fun w => after_any pb fb lb 0 w hb (by omega) (by omega)
        have st := ST'.out 0 (afterF pb fb lb 0) (by rw [if_neg cs]) Hl.out y1 y3 y4
        generalize afterF pb fb lb 0 = n at *
        have A' := Lib.hid A
        have st' := Lib.hid st
        clear A st y4 y3
        by_cases cn : n ≤ fa + k * pa + la - 1
        all_goals
          go_wp2_with fail
          refine (A'.out _).mono ?_
          rintro e w4 ⟨rfl, h4⟩
          have S4' := Lib.hid (SS.below S3'.out h4)
          clear h4 t0 t1 t2 t3 t4 t5 t6
          go_wp2_with fail
        · go_ret2
          obtain ⟨u1, u2, u3⟩ := st'.out.1 cn
          exact ⟨n, 0, .inl ⟨rfl, u1, by omega, u2, u3⟩, rfl, S4'.out.2.2.2.2.2.2.2⟩
        · go_roundw
          case rel => exact ⟨k + 1, rfl, by omega, by omega, by rw [E1.out]; intro m m0 m1; exact st'.out.2 (by omega) m m0 (by omega), S4'.out⟩
          case measure => show (q + 1 - (k + 1)).toNat < (q + 1 - k).toNat; omega
    · have hkq : k = q + 1 := by omega
      have c2 : L ≤ fa + k * pa := by
        rw [HQ.out, hkq, Int.add_mul, Int.mul_comm q pa]; omega
      clear hkq
      clear t0 t1 t2 t3 t4 t5 t6
      go_wp2_with fail
      go_ret2
      exact ⟨0, 5, .inr ⟨rfl, rfl, fun m _ => HN.out (fun m m0 m1 => Hl.out m m0 (by omega)) m⟩, rfl, S3'.out.2.2.2.2.2.2.2⟩
end Go.Proofs.YtlhgpeelenelbaaDoor
