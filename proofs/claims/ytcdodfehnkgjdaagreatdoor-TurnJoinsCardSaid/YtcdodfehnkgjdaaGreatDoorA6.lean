/- Contracts of turn.Often, Apart, CheckApart. -/
import Derived.Test.YtcdodfehnkgjdaaGreatDoorA4
namespace Go.Proofs.YtcdodfehnkgjdaaGreatDoor
open Go.RowKit

set_option maxHeartbeats 1000000 in
theorem often_bad (pa fa la pb fb lb : Int) (w : World) (h : ¬ TOk pa fa la ∨ ¬ TOk pb fb lb) :
    Calls Tryz.prog 19 #[tv pa fa la, tv pb fb lb] w fun e w' => e = .returned (.tuple #[.int .i64 0, .int .i64 0, .int .i64 1]) ∧ Below w.heap.size w w' := by
  have S0 := Lib.hid (SS.new (w := w) (pa := pa) (fa := fa) (la := la) (pb := pb) (fb := fb) (lb := lb) 42 42)
  go_enter Tryz.func19, Tryz.ntmps19
  go_wp2_with fail
  refine (checkPair_any pa fa la pb fb lb 1 _ (.inr ⟨h, rfl⟩)).mono ?_
  rintro e w1 ⟨rfl, h1⟩
  go_wp2_with fail
  go_ret3
  exact ⟨rfl, (SS.below S0.out h1).2.2.2.2.2.2.2⟩

set_option maxHeartbeats 2000000 in
theorem often_ok (pa fa la pb fb lb : Int) (w : World) (ha : TOk pa fa la) (hb : TOk pb fb lb) :
    Calls Tryz.prog 19 #[tv pa fa la, tv pb fb lb] w fun e w' =>
      e = .returned (.tuple #[.int .i64 (oftenF fa la fb lb (Int.gcd pa pb) (Int.gcd pa pb)), .int .i64 (pa / (Int.gcd pa pb : Int) * pb), .int .i64 0]) ∧ Below w.heap.size w w' := by
  have g1 := gcd_pos (b := pb) ha.1
  have g2 := gcd_le (b := pb) ha.1
  have a2 := ha.2.1
  have a1 := ha.1
  have b1 := hb.1
  have b2 := hb.2.1
  have a4 := ha.2.2.2.2.1
  have b4 := hb.2.2.2.2.1
  have a3 := ha.2.2.2.2.2
  have b3 := hb.2.2.2.2.2
  have S0 := Lib.hid (SS.new (w := w) (pa := pa) (fa := fa) (la := la) (pb := pb) (fb := fb) (lb := lb) 42 42)
  have D := fun w => divisor_any pa pb w (by omega) (by omega) (by omega) (by omega)
  have M := fun w => multiple_any pa pb w (by omega) (by omega) (by omega) (by omega)
  have OB := Lib.hid fun k => oftenF_bd (fa := fa) (fb := fb) g1 a4 (by omega) b4 (by omega) k
  have TB := Lib.hid fun r => times_mul_bd (fa := fa) (fb := fb) (r := r) g1 a4 (by omega) b4 (by omega)
  have TA := Lib.hid fun r => timesF_bd (f := fa) (r := r) g1 a4 (by omega)
  have TC := Lib.hid fun r => timesF_bd (f := fb) (r := r) g1 b4 (by omega)
  generalize Int.gcd pa pb = G at *
  have D' := Lib.hid D
  have M' := Lib.hid M
  clear D M
  go_enter Tryz.func19, Tryz.ntmps19
  go_wp2_with fail
  refine (checkPair_any pa fa la pb fb lb 0 _ (.inl ⟨ha, hb, rfl⟩)).mono ?_
  rintro e w1 ⟨rfl, h1⟩
  have S1 := SS.below S0.out h1
  clear h1 S0
  have S1' := Lib.hid S1
  obtain ⟨t0, t1, t2, t3, t4, t5, t6, _⟩ := S1
  go_wp2_with fail
  refine (D'.out _).mono ?_
  rintro e w2 ⟨rfl, n, rfl⟩
  have S2' := Lib.hid (SS.drewN S1'.out n)
  clear t0 t1 t2 t3 t4 t5 t6
  go_wp2_with fail
  go_loopw [9, 23] (fun u v wr => ∃ k : Nat, v = .int .i64 k ∧ (k : Int) ≤ G ∧ u = .int .i64 (oftenF fa la fb lb G k) ∧ SS w pa fa la pb fb lb wr) (fun _ v _ => (G - intOf v).toNat)
  case atStart => exact ⟨0, rfl, by omega, rfl, S2'.out⟩
  case round =>
    obtain ⟨k, rfl, hk, rfl, S3⟩ := hrel
    have S3' := Lib.hid S3
    obtain ⟨t0, t1, t2, t3, t4, t5, t6, _⟩ := S3
    have ⟨o1, o2⟩ := OB.out k
    by_cases hlt : (k : Int) < G
    · have Ca := Lib.hid fun w => times_any pa fa la G k w ha g1 (by omega) (by omega) (by omega)
      have Cb := Lib.hid fun w => times_any pb fb lb G k w hb g1 (by omega) (by omega) (by omega)
      have ⟨u1, u2⟩ := TB.out k
      have ⟨v1, v2⟩ := TA.out k
      have ⟨x1, x2⟩ := TC.out k
      have HO : Hid (oftenF fa la fb lb G (k + 1) = oftenF fa la fb lb G k + timesF fa la G k * timesF fb lb G k) := Lib.hid rfl
      generalize timesF fa la G k = ta at *
      generalize timesF fb lb G k = tb at *
      generalize oftenF fa la fb lb G k = on at *
      generalize hq : ta * tb = q at *
      have Hq := Lib.hid hq
      have W1 : IntKind.i64.wrap (ta * tb) = q := by rw [hq]; exact IntWalk.i64_in _ (by omega)
      have W2 : IntKind.i64.wrap (on + q) = on + q := IntWalk.i64_in _ (by omega)
      clear hq
      have S3e : SSd w pa fa la pb fb lb wr := S3'.out
      go_wp2_with fail
      go_region_held3 (SS w pa fa la pb fb lb) ((refine SSd.out ?_; with_reducible (first | exact S5 | exact S4 | exact SSd.drew S3e)))
        (first
          | (go_at_call_of 51 (Value.agg #[Value.int IntKind.i64 pa, Value.int IntKind.i64 fa, Value.int IntKind.i64 la]); refine (Ca.out _).mono ?_; rintro e w4 ⟨rfl, h4⟩; have S4 : SSd w pa fa la pb fb lb w4 := SSd.below (SSd.drew S3e) h4; clear h4)
          | (go_at_call_of 51 (Value.agg #[Value.int IntKind.i64 pb, Value.int IntKind.i64 fb, Value.int IntKind.i64 lb]); refine (Cb.out _).mono ?_; rintro e w5 ⟨rfl, h5⟩; have S5 : SSd w pa fa la pb fb lb w5 := SSd.below S4 h5; clear h5))
      all_goals go_wp2_with fail
      go_roundw
      case rel => exact ⟨k + 1, by go_num, by omega, by rw [HO.out], S5⟩
      case measure => show ((G : Int) - ((k : Int) + 1)).toNat < ((G : Int) - (k : Int)).toNat; omega
    · have hkG : k = G := by omega
      subst hkG
      go_wp2_with fail
      refine (M'.out _).mono ?_
      rintro e w6 ⟨rfl, n6, rfl⟩
      go_wp2_with fail
      go_ret3
      exact ⟨rfl, (SS.drewN S3'.out n6).2.2.2.2.2.2.2⟩

set_option maxHeartbeats 1000000 in
theorem apart_bad (pa fa la pb fb lb : Int) (w : World) (h : ¬ TOk pa fa la ∨ ¬ TOk pb fb lb) :
    Calls Tryz.prog 18 #[tv pa fa la, tv pb fb lb] w fun e w' => e = .returned (.tuple #[.int .i64 0, .bool false, .int .i64 1]) ∧ Below w.heap.size w w' := by
  have S0 := Lib.hid (SS.new (w := w) (pa := pa) (fa := fa) (la := la) (pb := pb) (fb := fb) (lb := lb) 42 42)
  go_enter Tryz.func18, Tryz.ntmps18
  go_wp2_with fail
  refine (checkPair_any pa fa la pb fb lb 1 _ (.inr ⟨h, rfl⟩)).mono ?_
  rintro e w1 ⟨rfl, h1⟩
  go_wp2_with fail
  go_ret3
  exact ⟨rfl, (SS.below S0.out h1).2.2.2.2.2.2.2⟩

/-- The search for a modulus, up to G: the least one that serves, or none. -/
def ApartIs (pa fa la pb fb lb G : Int) (m : Int) (b : Bool) : Prop :=
  (b = true ∧ 0 ≤ m ∧ m ≤ G ∧ apB pa fa la pb fb lb m = true ∧ ∀ k : Int, 0 ≤ k → k < m → apB pa fa la pb fb lb k = false) ∨
  (b = false ∧ m = 0 ∧ ∀ k : Int, 0 ≤ k → k ≤ G → apB pa fa la pb fb lb k = false)

def ApartPost (pa fa la pb fb lb G : Int) (w : World) (e : Ending) (w' : World) : Prop :=
  ∃ m b, ApartIs pa fa la pb fb lb G m b ∧ e = .returned (.tuple #[.int .i64 m, .bool b, .int .i64 0]) ∧ Below w.heap.size w w'

theorem dvB_pos {m pa pb : Int} (h : dvB m pa pb = true) : 1 ≤ m := by
  have h' : 1 ≤ m ∧ pa % m = 0 ∧ pb % m = 0 := by simpa [dvB] using h
  exact h'.1

set_option maxHeartbeats 2000000 in
theorem apart_ok (pa fa la pb fb lb : Int) (w : World) (ha : TOk pa fa la) (hb : TOk pb fb lb) :
    Calls Tryz.prog 18 #[tv pa fa la, tv pb fb lb] w (ApartPost pa fa la pb fb lb (Int.gcd pa pb) w) := by
  have g1 := gcd_pos (b := pb) ha.1
  have g2 := gcd_le (b := pb) ha.1
  have a2 := ha.2.1
  have a1 := ha.1
  have b1 := hb.1
  have b2 := hb.2.1
  have S0 := Lib.hid (SS.new (w := w) (pa := pa) (fa := fa) (la := la) (pb := pb) (fb := fb) (lb := lb) 42 42)
  have D := fun w => divisor_any pa pb w (by omega) (by omega) (by omega) (by omega)
  generalize Int.gcd pa pb = G at *
  have D' := Lib.hid D
  clear D
  go_enter Tryz.func18, Tryz.ntmps18
  go_wp2_with fail
  refine (checkPair_any pa fa la pb fb lb 0 _ (.inl ⟨ha, hb, rfl⟩)).mono ?_
  rintro e w1 ⟨rfl, h1⟩
  have S1 := SS.below S0.out h1
  clear h1 S0
  have S1' := Lib.hid S1
  obtain ⟨t0, t1, t2, t3, t4, t5, t6, _⟩ := S1
  go_wp2_with fail
  refine (D'.out _).mono ?_
  rintro e w2 ⟨rfl, n, rfl⟩
  have S2' := Lib.hid (SS.drewN S1'.out n)
  clear t0 t1 t2 t3 t4 t5 t6
  go_wp2_with fail
  go_loopw [21] (fun v wr => ∃ k : Nat, v = .int .i64 k ∧ (k : Int) ≤ G + 1 ∧ (∀ j : Int, 0 ≤ j → j < k → apB pa fa la pb fb lb j = false) ∧ SS w pa fa la pb fb lb wr) (fun v _ => (G + 1 - intOf v).toNat)
  case atStart => exact ⟨0, rfl, by omega, fun j _ _ => by omega, S2'.out⟩
  case round =>
    obtain ⟨k, rfl, hk, hj, S3⟩ := hrel
    have Hj := Lib.hid hj
    clear hj
    have S3' := Lib.hid S3
    obtain ⟨t0, t1, t2, t3, t4, t5, t6, _⟩ := S3
    by_cases hlt : (k : Int) < G + 1
    · have Cd := fun w => divides_any k pa fa la pb fb lb w (by omega) (by omega) (by omega) (by omega)
      have HN : Hid (∀ x, apB pa fa la pb fb lb k = x → x = false → ∀ j : Int, 0 ≤ j → j < ((k + 1 : Nat) : Int) → apB pa fa la pb fb lb j = false) := Lib.hid (by
        intro x hx hf j j0 j1
        by_cases e : j = k
        · subst e; rw [hx, hf]
        · exact Hj.out j j0 (by omega))
      by_cases d : dvB k pa pb = true
      · have hk1 := dvB_pos d
        have Ck := fun w => keepsApart_any pa fa la pb fb lb k w ha hb hk1 (by omega)
        rw [d] at Cd
        by_cases c : kaB la ((fb - fa) % (k : Int)) lb k = true
        · have HF : Hid (apB pa fa la pb fb lb k = true) := Lib.hid (by simp [apB, d, c])
          rw [c] at Ck
          have Cd' := Lib.hid Cd
          have Ck' := Lib.hid Ck
          clear Cd Ck c d
          go_wp2_with fail
          refine (Cd'.out _).mono ?_
          rintro e w4 ⟨rfl, h4⟩
          have S4 := SS.below S3'.out h4
          have S4' := Lib.hid S4
          clear h4 t0 t1 t2 t3 t4 t5 t6
          obtain ⟨t0, t1, t2, t3, t4, t5, t6, _⟩ := S4
          go_wp2_with fail
          refine (Ck'.out _).mono ?_
          rintro e w5 ⟨rfl, h5⟩
          have S5' := Lib.hid (SS.below S4'.out h5)
          clear h5 t0 t1 t2 t3 t4 t5 t6
          go_wp2_with fail
          go_ret3
          exact ⟨k, true, .inl ⟨rfl, by omega, by omega, HF.out, Hj.out⟩, rfl, S5'.out.2.2.2.2.2.2.2⟩
        · have c' : kaB la ((fb - fa) % (k : Int)) lb k = false := by simpa using c
          have HF : Hid (apB pa fa la pb fb lb k = false) := Lib.hid (by simp [apB, c'])
          rw [c'] at Ck
          have Cd' := Lib.hid Cd
          have Ck' := Lib.hid Ck
          clear Cd Ck c c' d
          go_wp2_with fail
          refine (Cd'.out _).mono ?_
          rintro e w4 ⟨rfl, h4⟩
          have S4 := SS.below S3'.out h4
          have S4' := Lib.hid S4
          clear h4 t0 t1 t2 t3 t4 t5 t6
          obtain ⟨t0, t1, t2, t3, t4, t5, t6, _⟩ := S4
          go_wp2_with fail
          refine (Ck'.out _).mono ?_
          rintro e w5 ⟨rfl, h5⟩
          have S5' := Lib.hid (SS.below S4'.out h5)
          clear h5 t0 t1 t2 t3 t4 t5 t6
          go_wp2_with fail
          go_roundw
          case rel => exact ⟨k + 1, by go_num, by omega, HN.out _ rfl HF.out, S5'.out⟩
          case measure => show (G + 1 - ((k : Int) + 1)).toNat < (G + 1 - (k : Int)).toNat; omega
      · have d' : dvB k pa pb = false := by simpa using d
        have HF : Hid (apB pa fa la pb fb lb k = false) := Lib.hid (by simp [apB, d'])
        rw [d'] at Cd
        have Cd' := Lib.hid Cd
        clear Cd d d'
        go_wp2_with fail
        refine (Cd'.out _).mono ?_
        rintro e w4 ⟨rfl, h4⟩
        have S4' := Lib.hid (SS.below S3'.out h4)
        clear h4 t0 t1 t2 t3 t4 t5 t6
        go_wp2_with fail
        go_roundw
        case rel => exact ⟨k + 1, by go_num, by omega, HN.out _ rfl HF.out, S4'.out⟩
        case measure => show (G + 1 - ((k : Int) + 1)).toNat < (G + 1 - (k : Int)).toNat; omega
    · clear t0 t1 t2 t3 t4 t5 t6
      go_wp2_with fail
      go_ret3
      exact ⟨0, false, .inr ⟨rfl, rfl, fun j j0 j1 => Hj.out j j0 (by omega)⟩, rfl, S3'.out.2.2.2.2.2.2.2⟩

set_option maxHeartbeats 1000000 in
theorem checkApart_bad (pa fa la pb fb lb m : Int) (w : World) (h : ¬ TOk pa fa la ∨ ¬ TOk pb fb lb) :
    Calls Tryz.prog 26 #[tv pa fa la, tv pb fb lb, .int .i64 m] w fun e w' => e = .returned (.int .i64 1) ∧ Below w.heap.size w w' := by
  have S0 := Lib.hid (SS.new (w := w) (pa := pa) (fa := fa) (la := la) (pb := pb) (fb := fb) (lb := lb) 42 42)
  go_enter Tryz.func26, Tryz.ntmps26
  go_wp2_with fail
  refine (checkPair_any pa fa la pb fb lb 1 _ (.inr ⟨h, rfl⟩)).mono ?_
  rintro e w1 ⟨rfl, h1⟩
  go_wp2_with fail
  go_ret
  exact ⟨rfl, (SS.below S0.out h1).2.2.2.2.2.2.2⟩

def caF (b : Bool) : Int := if b then 0 else 8

theorem dvB_le {m pa pb : Int} (h : dvB m pa pb = true) (hp : 1 ≤ pa) : m ≤ pa := by
  have h' : 1 ≤ m ∧ pa % m = 0 ∧ pb % m = 0 := by simpa [dvB] using h
  exact Int.le_of_dvd (by omega) (Int.dvd_of_emod_eq_zero h'.2.1)

set_option maxHeartbeats 2000000 in
theorem checkApart_ok (pa fa la pb fb lb m : Int) (w : World) (ha : TOk pa fa la) (hb : TOk pb fb lb) :
    Calls Tryz.prog 26 #[tv pa fa la, tv pb fb lb, .int .i64 m] w fun e w' => e = .returned (.int .i64 (caF (apB pa fa la pb fb lb m))) ∧ Below w.heap.size w w' := by
  have a2 := ha.2.1
  have a1 := ha.1
  have b1 := hb.1
  have b2 := hb.2.1
  have S0 := Lib.hid (SS.new (w := w) (pa := pa) (fa := fa) (la := la) (pb := pb) (fb := fb) (lb := lb) 42 42)
  have Cd := fun w => divides_any m pa fa la pb fb lb w (by omega) (by omega) (by omega) (by omega)
  by_cases d : dvB m pa pb = true
  · have hk1 := dvB_pos d
    have hk2 := dvB_le d a1
    have Ck := fun w => keepsApart_any pa fa la pb fb lb m w ha hb hk1 (by omega)
    rw [d] at Cd
    have HF : Hid (apB pa fa la pb fb lb m = kaB la ((fb - fa) % m) lb m) := Lib.hid (by simp [apB, d])
    generalize kaB la ((fb - fa) % m) lb m = x at *
    have Cd' := Lib.hid Cd
    have Ck' := Lib.hid Ck
    clear Cd Ck d
    cases x
    all_goals
      go_enter Tryz.func26, Tryz.ntmps26
      go_wp2_with fail
      refine (checkPair_any pa fa la pb fb lb 0 _ (.inl ⟨ha, hb, rfl⟩)).mono ?_
      rintro e w1 ⟨rfl, h1⟩
      have S1 := SS.below S0.out h1
      clear h1 S0
      have S1' := Lib.hid S1
      obtain ⟨t0, t1, t2, t3, t4, t5, t6, _⟩ := S1
      go_wp2_with fail
      refine (Cd'.out _).mono ?_
      rintro e w4 ⟨rfl, h4⟩
      have S4 := SS.below S1'.out h4
      have S4' := Lib.hid S4
      clear h4 t0 t1 t2 t3 t4 t5 t6
      obtain ⟨t0, t1, t2, t3, t4, t5, t6, _⟩ := S4
      go_wp2_with fail
      refine (Ck'.out _).mono ?_
      rintro e w5 ⟨rfl, h5⟩
      have S5' := Lib.hid (SS.below S4'.out h5)
      clear h5 t0 t1 t2 t3 t4 t5 t6
      go_wp2_with fail
      go_ret
      exact ⟨by rw [HF.out]; rfl, S5'.out.2.2.2.2.2.2.2⟩
  · have d' : dvB m pa pb = false := by simpa using d
    rw [d'] at Cd
    have HF : Hid (apB pa fa la pb fb lb m = false) := Lib.hid (by simp [apB, d'])
    have Cd' := Lib.hid Cd
    clear Cd d d'
    go_enter Tryz.func26, Tryz.ntmps26
    go_wp2_with fail
    refine (checkPair_any pa fa la pb fb lb 0 _ (.inl ⟨ha, hb, rfl⟩)).mono ?_
    rintro e w1 ⟨rfl, h1⟩
    have S1 := SS.below S0.out h1
    clear h1 S0
    have S1' := Lib.hid S1
    obtain ⟨t0, t1, t2, t3, t4, t5, t6, _⟩ := S1
    go_wp2_with fail
    refine (Cd'.out _).mono ?_
    rintro e w4 ⟨rfl, h4⟩
    have S4' := Lib.hid (SS.below S1'.out h4)
    clear h4 t0 t1 t2 t3 t4 t5 t6
    go_wp2_with fail
    go_ret
    exact ⟨by rw [HF.out]; rfl, S4'.out.2.2.2.2.2.2.2⟩
end Go.Proofs.YtcdodfehnkgjdaaGreatDoor
