/- Contracts of the specification's apart, Apart, CheckApart. -/
import Derived.Test.YtlhgpeelenelbaaDoorB1
import Derived.Test.YtlhgpeelenelbaaDoorA6
namespace Go.Proofs.YtlhgpeelenelbaaDoor
open Go.RowKit

set_option maxHeartbeats 2000000 in
theorem rapart_any (pa fa la pb fb lb m : Int) (w : World) (ha : TOk pa fa la) (hb : TOk pb fb lb) (h1 : 1 ≤ m) (h2 : m ≤ 9000000000) :
    Calls Tryd.prog 89 #[tv pa fa la, tv pb fb lb, .int .i64 m] w fun e w' => e = .returned (.bool (kaB la ((fb - fa) % m) lb m)) ∧ Below w.heap.size w w' := by
  have a4 := ha.2.2.2.2.1
  have b4 := hb.2.2.2.2.1
  have S0 := Lib.hid (SS.new (w := w) (pa := pa) (fa := fa) (la := la) (pb := pb) (fb := fb) (lb := lb) 27 27)
  have K1 := Lib.hid fun r => @ka_of_touch fa la fb lb m r h1
  have K2 := Lib.hid (@ka_of_none fa la fb lb m h1 a4 b4)
  generalize kaB la ((fb - fa) % m) lb m = x at *
  go_enter Tryd.func89, Tryd.ntmps89
  go_wp2_with fail
  go_loopw [7] (fun v wr => ∃ k : Nat, v = .int .i64 k ∧ (k : Int) ≤ m ∧ (∀ r : Int, 0 ≤ r → r < k → ¬ ((r - fa) % m < la ∧ (r - fb) % m < lb)) ∧ SS w pa fa la pb fb lb wr) (fun v _ => (m - intOf v).toNat)
  case atStart => exact ⟨0, rfl, by omega, fun j _ _ => by omega, S0.out⟩
  case round =>
    obtain ⟨k, rfl, hk, hj, S3⟩ := hrel
    have Hj := Lib.hid hj
    clear hj
    have S3' := Lib.hid S3
    obtain ⟨t0, t1, t2, t3, t4, t5, t6, _⟩ := S3
    by_cases hlt : (k : Int) < m
    · have Ca := fun w => touches_any pa fa la m k w ha h1 h2 (by omega) (by omega)
      have Cb := fun w => touches_any pb fb lb m k w hb h1 h2 (by omega) (by omega)
      have ea : Hid (toB fa la m k = true ↔ ((k : Int) - fa) % m < la) := Lib.hid (by simp [toB])
      have eb : Hid (toB fb lb m k = true ↔ ((k : Int) - fb) % m < lb) := Lib.hid (by simp [toB])
      generalize toB fa la m k = y at *
      generalize toB fb lb m k = z at *
      have Ca' := Lib.hid Ca
      have Cb' := Lib.hid Cb
      clear Ca Cb
      cases y <;> cases z
      all_goals
        go_wp2_with fail
        refine (Ca'.out _).mono ?_
        rintro e w4 ⟨rfl, h4⟩
        have S4 := SS.below S3'.out h4
        have S4' := Lib.hid S4
        clear h4 t0 t1 t2 t3 t4 t5 t6
        obtain ⟨t0, t1, t2, t3, t4, t5, t6, _⟩ := S4
        go_wp2_with fail
        refine (Cb'.out _).mono ?_
        rintro e w5 ⟨rfl, h5⟩
        have S5' := Lib.hid (SS.below S4'.out h5)
        clear h5 t0 t1 t2 t3 t4 t5 t6
        go_wp2_with fail
      rotate_left 3
      · have hx : x = false := K1.out k (ea.out.1 (by simp)) (eb.out.1 (by simp))
        subst hx
        go_ret
        exact ⟨rfl, S5'.out.2.2.2.2.2.2.2⟩
      all_goals
        go_roundw
        case rel =>
          refine ⟨k + 1, by go_num, by omega, ?_, S5'.out⟩
          intro r r0 r1
          by_cases hr : r = k
          · subst hr
            rw [← ea.out, ← eb.out]
            simp
          · exact Hj.out r r0 (by omega)
        case measure => show (m - ((k : Int) + 1)).toNat < (m - (k : Int)).toNat; omega
    · have hx : x = true := K2.out (fun r r0 r1 => Hj.out r r0 (by omega))
      subst hx
      clear t0 t1 t2 t3 t4 t5 t6
      go_wp2_with fail
      go_ret
      exact ⟨rfl, S3'.out.2.2.2.2.2.2.2⟩

set_option maxHeartbeats 1000000 in
theorem rapartx_bad (pa fa la pb fb lb : Int) (w : World) (h : ¬ TOk pa fa la ∨ ¬ TOk pb fb lb) :
    Calls Tryd.prog 32 #[tv pa fa la, tv pb fb lb] w fun e w' => e = .returned (.tuple #[.int .i64 0, .bool false, .int .i64 1]) ∧ Below w.heap.size w w' := by
  have S0 := Lib.hid (SS.new (w := w) (pa := pa) (fa := fa) (la := la) (pb := pb) (fb := fb) (lb := lb) 27 27)
  go_enter Tryd.func32, Tryd.ntmps32
  go_wp2_with fail
  refine (rpair_any pa fa la pb fb lb 1 _ (.inr ⟨h, rfl⟩)).mono ?_
  rintro e w1 ⟨rfl, h1⟩
  go_wp2_with fail
  go_ret3
  exact ⟨rfl, (SS.below S0.out h1).2.2.2.2.2.2.2⟩

set_option maxHeartbeats 2000000 in
theorem rapartx_ok (pa fa la pb fb lb : Int) (w : World) (ha : TOk pa fa la) (hb : TOk pb fb lb) :
    Calls Tryd.prog 32 #[tv pa fa la, tv pb fb lb] w (ApartPost pa fa la pb fb lb (Int.gcd pa pb) w) := by
  have g1 := gcd_pos (b := pb) ha.1
  have g2 := gcd_le (b := pb) ha.1
  have a2 := ha.2.1
  have a1 := ha.1
  have b1 := hb.1
  have b2 := hb.2.1
  have S0 := Lib.hid (SS.new (w := w) (pa := pa) (fa := fa) (la := la) (pb := pb) (fb := fb) (lb := lb) 27 27)
  have D := fun w => rdivisor_any pa pb w (by omega) (by omega) (by omega) (by omega)
  have HG := Lib.hid fun m => @dvB_gcd m pa pb
  generalize Int.gcd pa pb = G at *
  have D' := Lib.hid D
  clear D
  have Z0 : Hid (∀ j : Int, 0 ≤ j → j < 1 → apB pa fa la pb fb lb j = false) := Lib.hid (by
    intro j j0 j1
    obtain rfl : j = 0 := by omega
    simp [apB, dvB])
  go_enter Tryd.func32, Tryd.ntmps32
  go_wp2_with fail
  refine (rpair_any pa fa la pb fb lb 0 _ (.inl ⟨ha, hb, rfl⟩)).mono ?_
  rintro e w1 ⟨rfl, h1⟩
  have S1 := SS.below S0.out h1
  clear h1 S0
  have S1' := Lib.hid S1
  obtain ⟨t0, t1, t2, t3, t4, t5, t6, _⟩ := S1
  go_wp2_with fail
  refine (D'.out _).mono ?_
  rintro e w2 ⟨rfl, rfl⟩
  clear t0 t1 t2 t3 t4 t5 t6
  go_wp2_with fail
  go_loopw [9] (fun v wr => ∃ k : Nat, v = .int .i64 k ∧ 1 ≤ (k : Int) ∧ (k : Int) ≤ G + 1 ∧ (∀ j : Int, 0 ≤ j → j < k → apB pa fa la pb fb lb j = false) ∧ SS w pa fa la pb fb lb wr) (fun v _ => (G + 1 - intOf v).toNat)
  case atStart => exact ⟨1, rfl, by omega, by omega, Z0.out, S1'.out⟩
  case round =>
    obtain ⟨k, rfl, hk1, hk, hj, S3⟩ := hrel
    have Hj := Lib.hid hj
    clear hj
    have S3' := Lib.hid S3
    obtain ⟨t0, t1, t2, t3, t4, t5, t6, _⟩ := S3
    by_cases hlt : (k : Int) ≤ G
    · have HN : Hid (apB pa fa la pb fb lb k = false → ∀ j : Int, 0 ≤ j → j < ((k + 1 : Nat) : Int) → apB pa fa la pb fb lb j = false) := Lib.hid (by
        intro hx j j0 j1
        by_cases e : j = k
        · subst e; exact hx
        · exact Hj.out j j0 (by omega))
      have hz : ((k : Int) == 0) = false := beq_eq_false_iff_ne.2 (by omega)
      have e1 : 0 ≤ (G : Int) % (k : Int) := Int.emod_nonneg _ (by omega)
      by_cases d : (G : Int) % (k : Int) = 0
      · have hD : dvB k pa pb = true := by rw [HG.out k hk1]; simpa using d
        have hd : ((G : Int) % (k : Int) != 0) = false := by simp [d]
        have Ck := fun w => rapart_any pa fa la pb fb lb k w ha hb hk1 (by omega)
        have HF : Hid (apB pa fa la pb fb lb k = kaB la ((fb - fa) % (k : Int)) lb k) := Lib.hid (by simp [apB, hD])
        generalize kaB la ((fb - fa) % (k : Int)) lb k = x at *
        have Ck' := Lib.hid Ck
        clear Ck d hD
        cases x
        all_goals
          go_wp2_with fail
          refine (Ck'.out _).mono ?_
          rintro e w5 ⟨rfl, h5⟩
          have S5' := Lib.hid (SS.below S3'.out h5)
          clear h5 t0 t1 t2 t3 t4 t5 t6
          go_wp2_with fail
        · go_roundw
          case rel => exact ⟨k + 1, by go_num, by omega, by omega, HN.out HF.out, S5'.out⟩
          case measure => show ((G : Int) + 1 - ((k : Int) + 1)).toNat < ((G : Int) + 1 - (k : Int)).toNat; omega
        · go_ret3
          exact ⟨k, true, .inl ⟨rfl, by omega, by omega, HF.out, Hj.out⟩, rfl, S5'.out.2.2.2.2.2.2.2⟩
      · have hD : dvB k pa pb = false := by rw [HG.out k hk1]; simpa using d
        have HF : Hid (apB pa fa la pb fb lb k = false) := Lib.hid (by simp [apB, hD])
        have hd : ((G : Int) % (k : Int) != 0) = true := by rw [bne_iff_ne]; exact d
        clear d hD
        go_wp2_with fail
        go_roundw
        case rel => exact ⟨k + 1, by go_num, by omega, by omega, HN.out HF.out, S3'.out⟩
        case measure => show ((G : Int) + 1 - ((k : Int) + 1)).toNat < ((G : Int) + 1 - (k : Int)).toNat; omega
    · clear t0 t1 t2 t3 t4 t5 t6
      go_wp2_with fail
      go_ret3
      exact ⟨0, false, .inr ⟨rfl, rfl, fun j j0 j1 => Hj.out j j0 (by omega)⟩, rfl, S3'.out.2.2.2.2.2.2.2⟩

set_option maxHeartbeats 1000000 in
theorem rcheckApart_bad (pa fa la pb fb lb m : Int) (w : World) (h : ¬ TOk pa fa la ∨ ¬ TOk pb fb lb) :
    Calls Tryd.prog 36 #[tv pa fa la, tv pb fb lb, .int .i64 m] w fun e w' => e = .returned (.int .i64 1) ∧ Below w.heap.size w w' := by
  have S0 := Lib.hid (SS.new (w := w) (pa := pa) (fa := fa) (la := la) (pb := pb) (fb := fb) (lb := lb) 27 27)
  go_enter Tryd.func36, Tryd.ntmps36
  go_wp2_with fail
  refine (rpair_any pa fa la pb fb lb 1 _ (.inr ⟨h, rfl⟩)).mono ?_
  rintro e w1 ⟨rfl, h1⟩
  go_wp2_with fail
  go_ret
  exact ⟨rfl, (SS.below S0.out h1).2.2.2.2.2.2.2⟩

set_option maxHeartbeats 2000000 in
theorem rcheckApart_ok (pa fa la pb fb lb m : Int) (w : World) (ha : TOk pa fa la) (hb : TOk pb fb lb) :
    Calls Tryd.prog 36 #[tv pa fa la, tv pb fb lb, .int .i64 m] w fun e w' => e = .returned (.int .i64 (caF (apB pa fa la pb fb lb m))) ∧ Below w.heap.size w w' := by
  have a2 := ha.2.1
  have a1 := ha.1
  have b1 := hb.1
  have b2 := hb.2.1
  have S0 := Lib.hid (SS.new (w := w) (pa := pa) (fa := fa) (la := la) (pb := pb) (fb := fb) (lb := lb) 27 27)
  by_cases c1 : 1 ≤ m
  · have hz : (m == 0) = false := beq_eq_false_iff_ne.2 (by omega)
    have e1 : 0 ≤ pa % m := Int.emod_nonneg _ (by omega)
    have e2 : 0 ≤ pb % m := Int.emod_nonneg _ (by omega)
    by_cases c2 : pa % m = 0
    · have c2' : (pa % m != 0) = false := by simp [c2]
      by_cases c3 : pb % m = 0
      · have c3' : (pb % m != 0) = false := by simp [c3]
        have hd : dvB m pa pb = true := by simp [dvB, c1, c2, c3]
        have hk2 := dvB_le hd a1
        have Ck := fun w => rapart_any pa fa la pb fb lb m w ha hb c1 (by omega)
        have HF : Hid (apB pa fa la pb fb lb m = kaB la ((fb - fa) % m) lb m) := Lib.hid (by simp [apB, hd])
        generalize kaB la ((fb - fa) % m) lb m = x at *
        have Ck' := Lib.hid Ck
        clear Ck hd c2 c3
        cases x
        all_goals
          go_enter Tryd.func36, Tryd.ntmps36
          go_wp2_with fail
          refine (rpair_any pa fa la pb fb lb 0 _ (.inl ⟨ha, hb, rfl⟩)).mono ?_
          rintro e w1 ⟨rfl, h1⟩
          have S1 := SS.below S0.out h1
          clear h1 S0
          have S1' := Lib.hid S1
          obtain ⟨t0, t1, t2, t3, t4, t5, t6, _⟩ := S1
          go_wp2_with fail
          refine (Ck'.out _).mono ?_
          rintro e w5 ⟨rfl, h5⟩
          have S5' := Lib.hid (SS.below S1'.out h5)
          clear h5 t0 t1 t2 t3 t4 t5 t6
          go_wp2_with fail
          go_ret
          exact ⟨by rw [HF.out]; rfl, S5'.out.2.2.2.2.2.2.2⟩
      · have c3' : (pb % m != 0) = true := by rw [bne_iff_ne]; exact c3
        have HF : Hid (apB pa fa la pb fb lb m = false) := Lib.hid (by simp [apB, dvB, c3])
        clear c2 c3
        go_enter Tryd.func36, Tryd.ntmps36
        go_wp2_with fail
        refine (rpair_any pa fa la pb fb lb 0 _ (.inl ⟨ha, hb, rfl⟩)).mono ?_
        rintro e w1 ⟨rfl, h1⟩
        have S1 := SS.below S0.out h1
        clear h1 S0
        have S1' := Lib.hid S1
        obtain ⟨t0, t1, t2, t3, t4, t5, t6, _⟩ := S1
        go_wp2_with fail
        go_ret
        exact ⟨by rw [HF.out]; rfl, S1'.out.2.2.2.2.2.2.2⟩
    · have c2' : (pa % m != 0) = true := by rw [bne_iff_ne]; exact c2
      have HF : Hid (apB pa fa la pb fb lb m = false) := Lib.hid (by simp [apB, dvB, c2])
      clear c2
      go_enter Tryd.func36, Tryd.ntmps36
      go_wp2_with fail
      refine (rpair_any pa fa la pb fb lb 0 _ (.inl ⟨ha, hb, rfl⟩)).mono ?_
      rintro e w1 ⟨rfl, h1⟩
      have S1 := SS.below S0.out h1
      clear h1 S0
      have S1' := Lib.hid S1
      obtain ⟨t0, t1, t2, t3, t4, t5, t6, _⟩ := S1
      go_wp2_with fail
      go_ret
      exact ⟨by rw [HF.out]; rfl, S1'.out.2.2.2.2.2.2.2⟩
  · have HF : Hid (apB pa fa la pb fb lb m = false) := Lib.hid (by simp [apB, dvB, c1])
    go_enter Tryd.func36, Tryd.ntmps36
    go_wp2_with fail
    refine (rpair_any pa fa la pb fb lb 0 _ (.inl ⟨ha, hb, rfl⟩)).mono ?_
    rintro e w1 ⟨rfl, h1⟩
    have S1 := SS.below S0.out h1
    clear h1 S0
    have S1' := Lib.hid S1
    obtain ⟨t0, t1, t2, t3, t4, t5, t6, _⟩ := S1
    go_wp2_with fail
    go_ret
    exact ⟨by rw [HF.out]; rfl, S1'.out.2.2.2.2.2.2.2⟩
end Go.Proofs.YtlhgpeelenelbaaDoor
