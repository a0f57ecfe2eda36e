/- The law CarrierFlows (promise 2.3): for all works and water, CheckWater, Flow, Tails and Lost return what the specification returns; it returns true for every argument, and leaves them as they read.
   Conditions: none beyond the given row's own (the program at the commit in COMMIT; arguments that lie in memory as the row says). -/
import Derived.Test.YtkoacclbempmdaaQ5A
import Derived.Test.YtkoacclbempmdaaGZL
namespace Go.Proofs.Ytkoacclbempmdaa
open Go.RowKit

set_option maxHeartbeats 16000000 in
set_option maxRecDepth 1000000 in
theorem flows_law (A : Option Addr) (c : Nat) (wv : Value) (ws : Wk) (s : Wa) (w : World) (h : RK w.heap.size (.slice A ws.length c) ws w) (hs : RWa w.heap.size wv s w) :
    Calls Try.prog 10 #[.agg #[.slice A ws.length c], wv] w fun e w' => e = .returned (.bool true) ∧ Below w.heap.size w w' := by
  obtain ⟨A1, c1, A2, c2, A3, c3, A4, c4, rfl⟩ := hs.form
  have H := Lib.hid h
  have HS := Lib.hid hs
  have S := Lib.hid (WW.new w (.slice A ws.length c) (.slice A1 s.river.length c1) (.slice A2 s.boards.length c2) (.slice A3 s.leaks.length c3) (.slice A4 s.losses.length c4))
  clear h hs
  go_enter Try.func10, Try.ntmps10
  have xx0 := S.out.wk
  go_wp2_with fail
  refine (few_any A ws.length c ws _ (H.out.up S.out.bel.size S.out.bel)).mono ?_
  rintro e wc1 ⟨b, rfl, hfew, bb⟩
  replace S := Lib.hid (S.out.below bb)
  clear bb xx0
  cases b
  · clear hfew
    go_wp2_with fail
    refine (sanity_any _).mono ?_
    rintro e wz ⟨rfl, bz⟩
    have SZ := Lib.hid (S.out.below bz)
    clear bz
    go_wp2_with fail
    go_ret
    exact ⟨rfl, SZ.out.bel⟩
  have HT : Hid (total ws ≤ 90 ∧ ws.length ≤ 30) := Lib.hid (by have := hfew (by trivial); have h1 := this.1; have h2 := this.2.1; omega)
  clear hfew
  have xx0 := S.out.wk
  have xx1 := S.out.r
  have xx2 := S.out.b
  have xx3 := S.out.k
  have xx4 := S.out.l
  go_wp2_with fail
  refine (wet_any _ s _ (HS.out.up S.out.bel.size S.out.bel)).mono ?_
  rintro e wc2 ⟨b, rfl, -, bb⟩
  replace S := Lib.hid (S.out.below bb)
  clear bb xx0 xx1 xx2 xx3 xx4
  cases b
  · skip
    go_wp2_with fail
    refine (sanity_any _).mono ?_
    rintro e wz ⟨rfl, bz⟩
    have SZ := Lib.hid (S.out.below bz)
    clear bz
    go_wp2_with fail
    go_ret
    exact ⟨rfl, SZ.out.bel⟩
  obtain ⟨d, hd⟩ := WatIs.exists_ ws s
  have HD := Lib.hid hd
  have hwo : d = 0 → WOk ws := fun e => by subst e; exact hd.ok.1
  obtain ⟨L1, hL1⟩ : ∃ L, okL d (flowF ws s).thr = L := ⟨_, rfl⟩
  obtain ⟨L2, hL2⟩ : ∃ L, okL d (tailsL ws s) = L := ⟨_, rfl⟩
  obtain ⟨L3, hL3⟩ : ∃ L, okN d (flowF ws s).lost = L := ⟨_, rfl⟩
  have N1 : Hid (L1.length ≤ 100) := Lib.hid (by
    rw [← hL1]; unfold okL; split
    · have := thr_len ws s _ (Nat.le_refl (total ws)); have := HT.out; show (flowTo ws s (total ws)).thr.length ≤ 100; omega
    · simp)
  have N2 : Hid (L2.length ≤ 100) := Lib.hid (by
    rw [← hL2]; unfold okL; split
    · unfold tailsL; rw [List.length_map, List.length_range]; have := HT.out; omega
    · simp)
  have C1 := Lib.hid fun W (S : WW w (.slice A ws.length c) (.slice A1 s.river.length c1) (.slice A2 s.boards.length c2) (.slice A3 s.leaks.length c3) (.slice A4 s.losses.length c4) W) => Flow_any (.slice A ws.length c) _ ws s d W (H.out.up S.bel.size S.bel) (by have := HT.out; omega) (HS.out.up S.bel.size S.bel) HD.out
  have C2 := Lib.hid fun W (S : WW w (.slice A ws.length c) (.slice A1 s.river.length c1) (.slice A2 s.boards.length c2) (.slice A3 s.leaks.length c3) (.slice A4 s.losses.length c4) W) => rFlow_any (.slice A ws.length c) _ ws s d W (H.out.up S.bel.size S.bel) (by have := HT.out; omega) (HS.out.up S.bel.size S.bel) HD.out
  have C3 := Lib.hid fun W (S : WW w (.slice A ws.length c) (.slice A1 s.river.length c1) (.slice A2 s.boards.length c2) (.slice A3 s.leaks.length c3) (.slice A4 s.losses.length c4) W) => Tails_any (.slice A ws.length c) _ ws s d W (H.out.up S.bel.size S.bel) (by have := HT.out; omega) (HS.out.up S.bel.size S.bel) HD.out
  have C4 := Lib.hid fun W (S : WW w (.slice A ws.length c) (.slice A1 s.river.length c1) (.slice A2 s.boards.length c2) (.slice A3 s.leaks.length c3) (.slice A4 s.losses.length c4) W) => rTails_any (.slice A ws.length c) _ ws s d W (H.out.up S.bel.size S.bel) (by have := HT.out; omega) (HS.out.up S.bel.size S.bel) HD.out
  have C5 := Lib.hid fun W (S : WW w (.slice A ws.length c) (.slice A1 s.river.length c1) (.slice A2 s.boards.length c2) (.slice A3 s.leaks.length c3) (.slice A4 s.losses.length c4) W) => Lost_any (.slice A ws.length c) _ ws s d W (H.out.up S.bel.size S.bel) (by have := HT.out; omega) (HS.out.up S.bel.size S.bel) HD.out
  have C6 := Lib.hid fun W (S : WW w (.slice A ws.length c) (.slice A1 s.river.length c1) (.slice A2 s.boards.length c2) (.slice A3 s.leaks.length c3) (.slice A4 s.losses.length c4) W) => rLost_any (.slice A ws.length c) _ ws s d W (H.out.up S.bel.size S.bel) (by have := HT.out; omega) (HS.out.up S.bel.size S.bel) HD.out
  have C7 := Lib.hid fun W (hb : Below w.heap.size w W) => CheckWater_any (.slice A ws.length c) _ ws s d W (H.out.up hb.size hb) (by have := HT.out; omega) (HS.out.up hb.size hb) HD.out
  have C8 := Lib.hid fun W (hb : Below w.heap.size w W) => rCheckWater_any (.slice A ws.length c) _ ws s d W (H.out.up hb.size hb) (by have := HT.out; omega) (HS.out.up hb.size hb) HD.out
  rw [hL1] at C1 C2
  rw [hL2] at C3 C4
  rw [hL3] at C5 C6
  clear hd hwo hL1 hL2 hL3
  have xx0 := S.out.wk
  have xx1 := S.out.r
  have xx2 := S.out.b
  have xx3 := S.out.k
  have xx4 := S.out.l
  go_wp2_with fail
  refine (C1.out _ S.out).mono ?_
  rintro e wc3 ⟨u1, rfl, oo, bb⟩
  replace S := Lib.hid (S.out.below bb)
  obtain ⟨U1, uc1, rfl⟩ := own_list oo
  have U_1 := Lib.hid oo
  clear bb xx0 xx1 xx2 xx3 xx4 oo
  have xx0 := S.out.wk
  have xx1 := S.out.r
  have xx2 := S.out.b
  have xx3 := S.out.k
  have xx4 := S.out.l
  go_wp2_with fail
  refine (C2.out _ S.out).mono ?_
  rintro e wc4 ⟨v1, rfl, oo, bb⟩
  replace S := Lib.hid (S.out.below bb)
  replace U_1 := Lib.hid (U_1.out.below bb)
  obtain ⟨V1, vc1, rfl⟩ := own_list oo
  have V_1 := Lib.hid oo
  clear bb xx0 xx1 xx2 xx3 xx4 oo
  obtain ⟨wc5, hwc5⟩ : ∃ W, wc4.alloc (.cells #[.slice V1 L1.length vc1, .int .i64 d] 86) = W := ⟨_, rfl⟩
  have bb : Below wc4.heap.size wc4 wc5 := by rw [← hwc5]; exact (Below.refl _ _).alloc (Nat.le_refl _) _
  replace S := Lib.hid (S.out.below bb)
  replace U_1 := Lib.hid (U_1.out.below bb)
  replace V_1 := Lib.hid (V_1.out.below bb)
  have I_1 : Hid (In2 wc4.heap.size (.slice V1 L1.length vc1) d wc5) := Lib.hid (by rw [← hwc5]; exact ⟨by simp [go_sem], by simp [go_sem]⟩)
  have Hwc5 := Lib.hid hwc5
  clear bb hwc5
  go_upto_region 5 with fail
  rw [Hwc5.out]
  have xx0 := S.out.wk
  have xx1 := S.out.r
  have xx2 := S.out.b
  have xx3 := S.out.k
  have xx4 := S.out.l
  go_wp2_with fail
  refine (C3.out _ S.out).mono ?_
  rintro e wc6 ⟨u2, rfl, oo, bb⟩
  replace S := Lib.hid (S.out.below bb)
  replace U_1 := Lib.hid (U_1.out.below bb)
  replace V_1 := Lib.hid (V_1.out.below bb)
  replace I_1 := Lib.hid (I_1.out.below bb)
  obtain ⟨U2, uc2, rfl⟩ := own_list oo
  have U_2 := Lib.hid oo
  clear bb xx0 xx1 xx2 xx3 xx4 oo
  have xx0 := S.out.wk
  have xx1 := S.out.r
  have xx2 := S.out.b
  have xx3 := S.out.k
  have xx4 := S.out.l
  go_wp2_with fail
  refine (C4.out _ S.out).mono ?_
  rintro e wc7 ⟨v2, rfl, oo, bb⟩
  replace S := Lib.hid (S.out.below bb)
  replace U_1 := Lib.hid (U_1.out.below bb)
  replace V_1 := Lib.hid (V_1.out.below bb)
  replace I_1 := Lib.hid (I_1.out.below bb)
  replace U_2 := Lib.hid (U_2.out.below bb)
  obtain ⟨V2, vc2, rfl⟩ := own_list oo
  have V_2 := Lib.hid oo
  clear bb xx0 xx1 xx2 xx3 xx4 oo
  obtain ⟨wc8, hwc8⟩ : ∃ W, wc7.alloc (.cells #[.slice V2 L2.length vc2, .int .i64 d] 86) = W := ⟨_, rfl⟩
  have bb : Below wc7.heap.size wc7 wc8 := by rw [← hwc8]; exact (Below.refl _ _).alloc (Nat.le_refl _) _
  replace S := Lib.hid (S.out.below bb)
  replace U_1 := Lib.hid (U_1.out.below bb)
  replace V_1 := Lib.hid (V_1.out.below bb)
  replace I_1 := Lib.hid (I_1.out.below bb)
  replace U_2 := Lib.hid (U_2.out.below bb)
  replace V_2 := Lib.hid (V_2.out.below bb)
  have I_2 : Hid (In2 wc7.heap.size (.slice V2 L2.length vc2) d wc8) := Lib.hid (by rw [← hwc8]; exact ⟨by simp [go_sem], by simp [go_sem]⟩)
  have Hwc8 := Lib.hid hwc8
  clear bb hwc8
  go_upto_region 7 with fail
  rw [Hwc8.out]
  have xx0 := S.out.wk
  have xx1 := S.out.r
  have xx2 := S.out.b
  have xx3 := S.out.k
  have xx4 := S.out.l
  go_wp2_with fail
  refine (C5.out _ S.out).mono ?_
  rintro e wc9 ⟨rfl, bb⟩
  replace S := Lib.hid (S.out.below bb)
  replace U_1 := Lib.hid (U_1.out.below bb)
  replace V_1 := Lib.hid (V_1.out.below bb)
  replace I_1 := Lib.hid (I_1.out.below bb)
  replace U_2 := Lib.hid (U_2.out.below bb)
  replace V_2 := Lib.hid (V_2.out.below bb)
  replace I_2 := Lib.hid (I_2.out.below bb)
  clear bb xx0 xx1 xx2 xx3 xx4
  have xx0 := S.out.wk
  have xx1 := S.out.r
  have xx2 := S.out.b
  have xx3 := S.out.k
  have xx4 := S.out.l
  go_wp2_with fail
  refine (C6.out _ S.out).mono ?_
  rintro e wc10 ⟨rfl, bb⟩
  replace S := Lib.hid (S.out.below bb)
  replace U_1 := Lib.hid (U_1.out.below bb)
  replace V_1 := Lib.hid (V_1.out.below bb)
  replace I_1 := Lib.hid (I_1.out.below bb)
  replace U_2 := Lib.hid (U_2.out.below bb)
  replace V_2 := Lib.hid (V_2.out.below bb)
  replace I_2 := Lib.hid (I_2.out.below bb)
  clear bb xx0 xx1 xx2 xx3 xx4
  have x0 := S.out.wk
  have x1 := S.out.r
  have x2 := S.out.b
  have x3 := S.out.k
  have x4 := S.out.l
  have y10 := I_1.out.l
  have y11 := I_1.out.e
  have y20 := I_2.out.l
  have y21 := I_2.out.e
  go_upto_region 9 with fail
  refine wp_region_held_drew (S := BelS wc10) (by kernel_rfl) (BelS.drew0 _) (fun J0 => ?_)
  refine wpAnyH_ready (rs := [0]) (by kernel_rfl) (by simp) ?_
  refine AllReadyH.cons rfl (fun K hK => ?_) AllReadyH.nil
  go_simp
  refine (sanity_any _).mono ?_
  rintro e wq1 ⟨rfl, hq1⟩
  have J1 := J0.below hq1
  clear hq1
  refine hK.out _ _ J1 (fun _ => ?_)
  clear hK K
  try simp only [aS]
  refine tw 1 55 J1 ?_ (hy := by intro w' hSw; have q0 := hSw.c x0; have q1 := hSw.c x1; have q2 := hSw.c x2; have q3 := hSw.c x3; have q4 := hSw.c x4; have q5 := hSw.c y10; have q6 := hSw.c y11; have q7 := hSw.c y20; have q8 := hSw.c y21; go_simp; try with_reducible rfl)
  try simp only [aS]
  refine tw 2 56 J1 ?_ (hy := by intro w' hSw; have q0 := hSw.c x0; have q1 := hSw.c x1; have q2 := hSw.c x2; have q3 := hSw.c x3; have q4 := hSw.c x4; have q5 := hSw.c y10; have q6 := hSw.c y11; have q7 := hSw.c y20; have q8 := hSw.c y21; go_simp; try with_reducible rfl)
  try simp only [aS]
  refine tw 3 57 J1 ?_ (hy := by intro w' hSw; have q0 := hSw.c x0; have q1 := hSw.c x1; have q2 := hSw.c x2; have q3 := hSw.c x3; have q4 := hSw.c x4; have q5 := hSw.c y10; have q6 := hSw.c y11; have q7 := hSw.c y20; have q8 := hSw.c y21; go_simp; try with_reducible rfl)
  try simp only [aS]
  refine tw 5 59 J1 ?_ (hy := by intro w' hSw; have q0 := hSw.c x0; have q1 := hSw.c x1; have q2 := hSw.c x2; have q3 := hSw.c x3; have q4 := hSw.c x4; have q5 := hSw.c y10; have q6 := hSw.c y11; have q7 := hSw.c y20; have q8 := hSw.c y21; go_simp; try with_reducible rfl)
  try simp only [aS]
  refine tw 6 60 J1 ?_ (hy := by intro w' hSw; have q0 := hSw.c x0; have q1 := hSw.c x1; have q2 := hSw.c x2; have q3 := hSw.c x3; have q4 := hSw.c x4; have q5 := hSw.c y10; have q6 := hSw.c y11; have q7 := hSw.c y20; have q8 := hSw.c y21; go_simp; try with_reducible rfl)
  try simp only [aS]
  refine wpAnyH_ready (rs := [4]) (by kernel_rfl) (by simp) ?_
  refine AllReadyH.cons rfl (fun K hK => ?_) AllReadyH.nil
  go_simp
  refine (C7.out _ (S.out.bel.trans ((BelS.b J1).mono S.out.bel.size))).mono ?_
  rintro e wq2 ⟨rfl, hq2⟩
  have J2 := J1.below hq2
  clear hq2
  refine hK.out _ _ J2 (fun _ => ?_)
  clear hK K
  try simp only [aS]
  refine wpAnyH_ready (rs := [7]) (by kernel_rfl) (by simp) ?_
  refine AllReadyH.cons rfl (fun K hK => ?_) AllReadyH.nil
  go_simp
  refine (C8.out _ (S.out.bel.trans ((BelS.b J2).mono S.out.bel.size))).mono ?_
  rintro e wq3 ⟨rfl, hq3⟩
  have J3 := J2.below hq3
  clear hq3
  refine hK.out _ _ J3 (fun _ => ?_)
  clear hK K
  try simp only [aS]
  refine tw 8 62 J3 ?_ (hy := by intro w' hSw; have q0 := hSw.c x0; have q1 := hSw.c x1; have q2 := hSw.c x2; have q3 := hSw.c x3; have q4 := hSw.c x4; have q5 := hSw.c y10; have q6 := hSw.c y11; have q7 := hSw.c y20; have q8 := hSw.c y21; go_simp; try with_reducible rfl)
  try simp only [aS]
  refine tw 9 63 J3 ?_ (hy := by intro w' hSw; have q0 := hSw.c x0; have q1 := hSw.c x1; have q2 := hSw.c x2; have q3 := hSw.c x3; have q4 := hSw.c x4; have q5 := hSw.c y10; have q6 := hSw.c y11; have q7 := hSw.c y20; have q8 := hSw.c y21; go_simp; try with_reducible rfl)
  try simp only [aS]
  refine tw 10 64 J3 ?_ (hy := by intro w' hSw; have q0 := hSw.c x0; have q1 := hSw.c x1; have q2 := hSw.c x2; have q3 := hSw.c x3; have q4 := hSw.c x4; have q5 := hSw.c y10; have q6 := hSw.c y11; have q7 := hSw.c y20; have q8 := hSw.c y21; go_simp; try with_reducible rfl)
  try simp only [aS]
  refine tw 11 65 J3 ?_ (hy := by intro w' hSw; have q0 := hSw.c x0; have q1 := hSw.c x1; have q2 := hSw.c x2; have q3 := hSw.c x3; have q4 := hSw.c x4; have q5 := hSw.c y10; have q6 := hSw.c y11; have q7 := hSw.c y20; have q8 := hSw.c y21; go_simp; try with_reducible rfl)
  try simp only [aS]
  refine tw 12 66 J3 ?_ (hy := by intro w' hSw; have q0 := hSw.c x0; have q1 := hSw.c x1; have q2 := hSw.c x2; have q3 := hSw.c x3; have q4 := hSw.c x4; have q5 := hSw.c y10; have q6 := hSw.c y11; have q7 := hSw.c y20; have q8 := hSw.c y21; go_simp; try with_reducible rfl)
  try simp only [aS]
  refine tw 13 67 J3 ?_ (hy := by intro w' hSw; have q0 := hSw.c x0; have q1 := hSw.c x1; have q2 := hSw.c x2; have q3 := hSw.c x3; have q4 := hSw.c x4; have q5 := hSw.c y10; have q6 := hSw.c y11; have q7 := hSw.c y20; have q8 := hSw.c y21; go_simp; try with_reducible rfl)
  try simp only [aS]
  refine wpAnyH_ready (rs := [14]) (by kernel_rfl) (by simp) ?_
  refine AllReadyH.cons rfl (fun K hK => ?_) AllReadyH.nil
  go_simp
  refine (sameInts_any (.slice U1 L1.length uc1) (.slice V1 L1.length vc1) L1 _ ((U_1.out.rr EI (by have := N1.out; show L1.length ≤ 1000000000000000; omega)).up (BelS.b J3).size (BelS.b J3)) ((V_1.out.rr EI (by have := N1.out; show L1.length ≤ 1000000000000000; omega)).up (BelS.b J3).size (BelS.b J3)) (by have := N1.out; omega)).mono ?_
  rintro e wq4 ⟨rfl, hq4⟩
  have J4 := J3.below hq4
  clear hq4
  refine hK.out _ _ J4 (fun _ => ?_)
  clear hK K
  try simp only [aS]
  refine tw 15 69 J4 ?_ (hy := by intro w' hSw; have q0 := hSw.c x0; have q1 := hSw.c x1; have q2 := hSw.c x2; have q3 := hSw.c x3; have q4 := hSw.c x4; have q5 := hSw.c y10; have q6 := hSw.c y11; have q7 := hSw.c y20; have q8 := hSw.c y21; go_simp; try with_reducible rfl)
  try simp only [aS]
  refine tw 16 70 J4 ?_ (hy := by intro w' hSw; have q0 := hSw.c x0; have q1 := hSw.c x1; have q2 := hSw.c x2; have q3 := hSw.c x3; have q4 := hSw.c x4; have q5 := hSw.c y10; have q6 := hSw.c y11; have q7 := hSw.c y20; have q8 := hSw.c y21; go_simp; try with_reducible rfl)
  try simp only [aS]
  refine tw 17 71 J4 ?_ (hy := by intro w' hSw; have q0 := hSw.c x0; have q1 := hSw.c x1; have q2 := hSw.c x2; have q3 := hSw.c x3; have q4 := hSw.c x4; have q5 := hSw.c y10; have q6 := hSw.c y11; have q7 := hSw.c y20; have q8 := hSw.c y21; go_simp; try with_reducible rfl)
  try simp only [aS]
  refine tw 18 72 J4 ?_ (hy := by intro w' hSw; have q0 := hSw.c x0; have q1 := hSw.c x1; have q2 := hSw.c x2; have q3 := hSw.c x3; have q4 := hSw.c x4; have q5 := hSw.c y10; have q6 := hSw.c y11; have q7 := hSw.c y20; have q8 := hSw.c y21; go_simp; try with_reducible rfl)
  try simp only [aS]
  refine tw 19 73 J4 ?_ (hy := by intro w' hSw; have q0 := hSw.c x0; have q1 := hSw.c x1; have q2 := hSw.c x2; have q3 := hSw.c x3; have q4 := hSw.c x4; have q5 := hSw.c y10; have q6 := hSw.c y11; have q7 := hSw.c y20; have q8 := hSw.c y21; go_simp; try with_reducible rfl)
  try simp only [aS]
  refine tw 20 74 J4 ?_ (hy := by intro w' hSw; have q0 := hSw.c x0; have q1 := hSw.c x1; have q2 := hSw.c x2; have q3 := hSw.c x3; have q4 := hSw.c x4; have q5 := hSw.c y10; have q6 := hSw.c y11; have q7 := hSw.c y20; have q8 := hSw.c y21; go_simp; try with_reducible rfl)
  try simp only [aS]
  refine tw 21 75 J4 ?_ (hy := by intro w' hSw; have q0 := hSw.c x0; have q1 := hSw.c x1; have q2 := hSw.c x2; have q3 := hSw.c x3; have q4 := hSw.c x4; have q5 := hSw.c y10; have q6 := hSw.c y11; have q7 := hSw.c y20; have q8 := hSw.c y21; go_simp; try with_reducible rfl)
  try simp only [aS]
  refine tw 22 76 J4 ?_ (hy := by intro w' hSw; have q0 := hSw.c x0; have q1 := hSw.c x1; have q2 := hSw.c x2; have q3 := hSw.c x3; have q4 := hSw.c x4; have q5 := hSw.c y10; have q6 := hSw.c y11; have q7 := hSw.c y20; have q8 := hSw.c y21; go_simp; try with_reducible rfl)
  try simp only [aS]
  refine tw 23 77 J4 ?_ (hy := by intro w' hSw; have q0 := hSw.c x0; have q1 := hSw.c x1; have q2 := hSw.c x2; have q3 := hSw.c x3; have q4 := hSw.c x4; have q5 := hSw.c y10; have q6 := hSw.c y11; have q7 := hSw.c y20; have q8 := hSw.c y21; go_simp; try with_reducible rfl)
  try simp only [aS]
  refine tw 24 78 J4 ?_ (hy := by intro w' hSw; have q0 := hSw.c x0; have q1 := hSw.c x1; have q2 := hSw.c x2; have q3 := hSw.c x3; have q4 := hSw.c x4; have q5 := hSw.c y10; have q6 := hSw.c y11; have q7 := hSw.c y20; have q8 := hSw.c y21; go_simp; try with_reducible rfl)
  try simp only [aS]
  refine tw 25 79 J4 ?_ (hy := by intro w' hSw; have q0 := hSw.c x0; have q1 := hSw.c x1; have q2 := hSw.c x2; have q3 := hSw.c x3; have q4 := hSw.c x4; have q5 := hSw.c y10; have q6 := hSw.c y11; have q7 := hSw.c y20; have q8 := hSw.c y21; go_simp; try with_reducible rfl)
  try simp only [aS]
  refine wpAnyH_ready (rs := [26]) (by kernel_rfl) (by simp) ?_
  refine AllReadyH.cons rfl (fun K hK => ?_) AllReadyH.nil
  go_simp
  refine (sameInts_any (.slice U2 L2.length uc2) (.slice V2 L2.length vc2) L2 _ ((U_2.out.rr EI (by have := N2.out; show L2.length ≤ 1000000000000000; omega)).up (BelS.b J4).size (BelS.b J4)) ((V_2.out.rr EI (by have := N2.out; show L2.length ≤ 1000000000000000; omega)).up (BelS.b J4).size (BelS.b J4)) (by have := N2.out; omega)).mono ?_
  rintro e wq5 ⟨rfl, hq5⟩
  have J5 := J4.below hq5
  clear hq5
  refine hK.out _ _ J5 (fun _ => ?_)
  clear hK K
  try simp only [aS]
  refine tw 27 81 J5 ?_ (hy := by intro w' hSw; have q0 := hSw.c x0; have q1 := hSw.c x1; have q2 := hSw.c x2; have q3 := hSw.c x3; have q4 := hSw.c x4; have q5 := hSw.c y10; have q6 := hSw.c y11; have q7 := hSw.c y20; have q8 := hSw.c y21; go_simp; try with_reducible rfl)
  try simp only [aS]
  refine tw 28 82 J5 ?_ (hy := by intro w' hSw; have q0 := hSw.c x0; have q1 := hSw.c x1; have q2 := hSw.c x2; have q3 := hSw.c x3; have q4 := hSw.c x4; have q5 := hSw.c y10; have q6 := hSw.c y11; have q7 := hSw.c y20; have q8 := hSw.c y21; go_simp; try with_reducible rfl)
  try simp only [aS]
  refine tw 29 83 J5 ?_ (hy := by intro w' hSw; have q0 := hSw.c x0; have q1 := hSw.c x1; have q2 := hSw.c x2; have q3 := hSw.c x3; have q4 := hSw.c x4; have q5 := hSw.c y10; have q6 := hSw.c y11; have q7 := hSw.c y20; have q8 := hSw.c y21; go_simp; try with_reducible rfl)
  try simp only [aS]
  refine tw 30 84 J5 ?_ (hy := by intro w' hSw; have q0 := hSw.c x0; have q1 := hSw.c x1; have q2 := hSw.c x2; have q3 := hSw.c x3; have q4 := hSw.c x4; have q5 := hSw.c y10; have q6 := hSw.c y11; have q7 := hSw.c y20; have q8 := hSw.c y21; go_simp; try with_reducible rfl)
  try simp only [aS]
  refine tw 31 85 J5 ?_ (hy := by intro w' hSw; have q0 := hSw.c x0; have q1 := hSw.c x1; have q2 := hSw.c x2; have q3 := hSw.c x3; have q4 := hSw.c x4; have q5 := hSw.c y10; have q6 := hSw.c y11; have q7 := hSw.c y20; have q8 := hSw.c y21; go_simp; try with_reducible rfl)
  try simp only [aS]
  refine tw 32 86 J5 ?_ (hy := by intro w' hSw; have q0 := hSw.c x0; have q1 := hSw.c x1; have q2 := hSw.c x2; have q3 := hSw.c x3; have q4 := hSw.c x4; have q5 := hSw.c y10; have q6 := hSw.c y11; have q7 := hSw.c y20; have q8 := hSw.c y21; go_simp; try with_reducible rfl)
  try simp only [aS]
  refine tw 33 87 J5 ?_ (hy := by intro w' hSw; have q0 := hSw.c x0; have q1 := hSw.c x1; have q2 := hSw.c x2; have q3 := hSw.c x3; have q4 := hSw.c x4; have q5 := hSw.c y10; have q6 := hSw.c y11; have q7 := hSw.c y20; have q8 := hSw.c y21; go_simp; try with_reducible rfl)
  try simp only [aS]
  refine tw 34 88 J5 ?_ (hy := by intro w' hSw; have q0 := hSw.c x0; have q1 := hSw.c x1; have q2 := hSw.c x2; have q3 := hSw.c x3; have q4 := hSw.c x4; have q5 := hSw.c y10; have q6 := hSw.c y11; have q7 := hSw.c y20; have q8 := hSw.c y21; go_simp; try with_reducible rfl)
  try simp only [aS]
  refine tw 35 89 J5 ?_ (hy := by intro w' hSw; have q0 := hSw.c x0; have q1 := hSw.c x1; have q2 := hSw.c x2; have q3 := hSw.c x3; have q4 := hSw.c x4; have q5 := hSw.c y10; have q6 := hSw.c y11; have q7 := hSw.c y20; have q8 := hSw.c y21; go_simp; try with_reducible rfl)
  try simp only [aS]
  refine tw 36 90 J5 ?_ (hy := by intro w' hSw; have q0 := hSw.c x0; have q1 := hSw.c x1; have q2 := hSw.c x2; have q3 := hSw.c x3; have q4 := hSw.c x4; have q5 := hSw.c y10; have q6 := hSw.c y11; have q7 := hSw.c y20; have q8 := hSw.c y21; go_simp; try with_reducible rfl)
  try simp only [aS]
  refine tw 37 91 J5 ?_ (hy := by intro w' hSw; have q0 := hSw.c x0; have q1 := hSw.c x1; have q2 := hSw.c x2; have q3 := hSw.c x3; have q4 := hSw.c x4; have q5 := hSw.c y10; have q6 := hSw.c y11; have q7 := hSw.c y20; have q8 := hSw.c y21; go_simp; try with_reducible rfl)
  try simp only [aS]
  refine tw 38 92 J5 ?_ (hy := by intro w' hSw; have q0 := hSw.c x0; have q1 := hSw.c x1; have q2 := hSw.c x2; have q3 := hSw.c x3; have q4 := hSw.c x4; have q5 := hSw.c y10; have q6 := hSw.c y11; have q7 := hSw.c y20; have q8 := hSw.c y21; go_simp; try with_reducible rfl)
  try simp only [aS]
  refine tw 39 93 J5 ?_ (hy := by intro w' hSw; have q0 := hSw.c x0; have q1 := hSw.c x1; have q2 := hSw.c x2; have q3 := hSw.c x3; have q4 := hSw.c x4; have q5 := hSw.c y10; have q6 := hSw.c y11; have q7 := hSw.c y20; have q8 := hSw.c y21; go_simp; try with_reducible rfl)
  try simp only [aS]
  refine tw 40 94 J5 ?_ (hy := by intro w' hSw; have q0 := hSw.c x0; have q1 := hSw.c x1; have q2 := hSw.c x2; have q3 := hSw.c x3; have q4 := hSw.c x4; have q5 := hSw.c y10; have q6 := hSw.c y11; have q7 := hSw.c y20; have q8 := hSw.c y21; go_simp; try with_reducible rfl)
  try simp only [aS]
  refine tw 41 95 J5 ?_ (hy := by intro w' hSw; have q0 := hSw.c x0; have q1 := hSw.c x1; have q2 := hSw.c x2; have q3 := hSw.c x3; have q4 := hSw.c x4; have q5 := hSw.c y10; have q6 := hSw.c y11; have q7 := hSw.c y20; have q8 := hSw.c y21; go_simp; try with_reducible rfl)
  try simp only [aS]
  refine tw 42 96 J5 ?_ (hy := by intro w' hSw; have q0 := hSw.c x0; have q1 := hSw.c x1; have q2 := hSw.c x2; have q3 := hSw.c x3; have q4 := hSw.c x4; have q5 := hSw.c y10; have q6 := hSw.c y11; have q7 := hSw.c y20; have q8 := hSw.c y21; go_simp; try with_reducible rfl)
  try simp only [aS]
  refine tw 43 97 J5 ?_ (hy := by intro w' hSw; have q0 := hSw.c x0; have q1 := hSw.c x1; have q2 := hSw.c x2; have q3 := hSw.c x3; have q4 := hSw.c x4; have q5 := hSw.c y10; have q6 := hSw.c y11; have q7 := hSw.c y20; have q8 := hSw.c y21; go_simp; try with_reducible rfl)
  try simp only [aS]
  refine tw 44 4 J5 ?_ (hy := by intro w' hSw; have q0 := hSw.c x0; have q1 := hSw.c x1; have q2 := hSw.c x2; have q3 := hSw.c x3; have q4 := hSw.c x4; have q5 := hSw.c y10; have q6 := hSw.c y11; have q7 := hSw.c y20; have q8 := hSw.c y21; go_simp; try with_reducible rfl)
  try simp only [aS]
  refine wpAnyH_done (by kernel_rfl) ?_ _
  have BE := Lib.hid (S.out.bel.trans ((BelS.b J5).mono S.out.bel.size))
  clear x0 x1 x2 x3 x4 y10 y11 y20 y21
  go_wp2_with fail
  go_ret
  exact ⟨rfl, BE.out⟩
end Go.Proofs.Ytkoacclbempmdaa

/- The law CarrierFlows holds for every input: the row. -/
namespace Go.Proofs.Ytkoacclbempmdaa
open Go.ChangeShapes Go.WideShapes Go.ChangeAt Go.RowKit Go.Joins

namespace carrierFlows
def wargs : Array Value := #[.agg #[.slice none 0 0], .agg #[.slice none 0 0, .slice none 0 0, .slice none 0 0, .slice none 0 0]]
theorem laid_met (os : Os) : laidMet Try.prog Rows.carrierFlowsRow.laid ((World.holding Try.prog os ⟨#[], #[], []⟩).forCall (fun _ _ => 0) ⟨#[], wargs, []⟩).memory :=
  laidMet_of_run' 8 (by kernel_rfl) (by kernel_rfl)
theorem reads (os : Os) {H : Type} (enc : TypeId × Value → H) : ∃ places, DataW.whole enc Try.prog ((World.holding Try.prog os ⟨#[], #[], []⟩).forCall (fun _ _ => 0) ⟨#[], wargs, []⟩).memory Try.f10.params.toList Rows.carrierFlowsSpec.vars false wargs.toList 8 = some ([.agg [.nil], .agg [.nil, .nil, .nil, .nil]], [], places) :=
  ⟨[], by kernel_rfl⟩

set_option maxHeartbeats 1000000 in
set_option maxRecDepth 100000 in
/-- What the walk gives, for every argument. -/
theorem contract (H : Type) (enc : TypeId × Value → H) (W : World) (base : Nat) (args : Array Value) (ds gs : List (DataW H)) (before : List MemPlace)
    (hval : ∀ (j : Nat) t v, Try.f10.params[j]? = some t → args[j]? = some v → Value.okWide Try.prog W .any base t v)
    (hW : DataW.Whole enc Try.prog Try.f10.params.toList Rows.carrierFlowsSpec.vars false W args.toList ds gs before)
    (hwt : (DataW.weightsEach Try.prog (Try.f10.params.toList ++ DataSpec.varTypes Try.prog (OpenSpec.ofChange Rows.carrierFlowsSpec).bare.plain) (ds ++ gs)).all (· ≤ reachBytes) = true) :
    Calls Try.prog 10 args W fun e W' => ∃ v, e = .returned v ∧ Rows.carrierFlowsSpec.post enc Try.prog Try.f10 false true false false W args v W' := by
  have hW' := hW
  obtain ⟨p, q, hA0, hV, rfl, hfz, hnd⟩ := hW
  have hA : DataW.TrodAll enc Try.prog W 0 (fun _ => true) true Try.f10.params.toList args.toList ds p := hA0
  have hAk := hA
  have hsize : ∀ t ∈ Try.f10.params.toList, t < Try.prog.types.size := by rw [Try.params10]; decide +kernel
  have hwt' := hwt
  rw [Try.params10] at hA hval hwt'
  obtain ⟨v0, vs0, d0, ds0, p0, q0, hargs, rfl, rfl, h0, r0⟩ := trodAll_cons hA
  obtain ⟨v1, vs1, d1, ds1, p1, q1, rfl, rfl, rfl, h1, r1⟩ := trodAll_cons r0
  obtain ⟨rfl, rfl, rfl⟩ := trodAll_nil r1
  obtain rfl : args = #[v0, v1] := by cases args; simp_all
  obtain ⟨rfl, rfl⟩ := trodVars_none hV
  obtain ⟨A, c, ws, rfl, hk⟩ := works_open (hval 0 24 v0 rfl rfl) h0 (WB.each _ _ hwt' 0 _ _ rfl rfl)
  obtain ⟨s1, hs1⟩ := water_open (hval 1 27 v1 rfl rfl) h1 (WB.each _ _ hwt' 1 _ _ rfl rfl)
  have hcall := flows_law A c v1 ws s1 W hk hs1
  refine hcall.mono fun e W' ⟨he, hb⟩ => ?_
  subst he
  refine ⟨_, rfl, _, _, _, [], _, [], hW', ?_, args_again hb hsize hAk, ?_, hb.frame _, fun h => by cases h⟩
  · exact trodAll_cons_mk (shut_bool Try.underlying4 _) trodAll_mk0
  · rfl

set_option maxRecDepth 100000 in
theorem lifted (os : Os) (started : os.Started) (H : Type) (enc : TypeId × Value → H) (F : Stop.Interp) :
    ReturnsInHanded {} Try.checked os 10 .any ((OpenSpec.ofChange Rows.carrierFlowsSpec).preRow enc Try.prog Try.f10 Rows.carrierFlowsRow.domain false Rows.carrierFlowsRow.laid) (((OpenSpec.ofChange Rows.carrierFlowsSpec).at F).post enc Try.prog Try.f10 false true false false) := by
  obtain ⟨places, hx⟩ := reads os enc
  refine returnsInHanded_of_row (C := Try.checked) (s := OpenSpec.ofChange Rows.carrierFlowsSpec) own started (by kernel_rfl) Try.func10
    (witness_row_at (enc := enc) (C := Try.checked) false (World.holding Try.prog os ⟨#[], #[], []⟩) wargs rfl (by kernel_rfl) (by kernel_rfl) (by kernel_rfl)
      (OpenSpec.preRow_of_cond 8 hx (by kernel_rfl) (fun k hk => by cases hk) (by kernel_rfl) (laid_met os))) ?_
  intro W base args ds gs before hval hW _ _ hwt hL _ _
  exact contract H enc W base args ds gs before hval hW hwt

theorem said : Rows.CarrierFlowsSaid :=
  OpenClaim.holds_of_cond 10 Try.f10 rfl rfl rfl rfl rfl rfl rfl ⟨rfl, rfl, rfl, rfl, rfl⟩ rfl rfl rfl rfl rfl (by kernel_rfl) Try.func10 (by kernel_rfl)
    (of_decide_eq_true (by kernel_rfl)) (by unfold Func.isWrapper; first | (rw [if_pos (by decide +kernel)]; kernel_rfl) | (rw [if_neg (by decide +kernel)]; exact ⟨rfl, rfl⟩))
    (fun os started H enc _ F => by rw [OpenClaim.pre_eq_preRow]; exact lifted os started H enc F)
end carrierFlows
theorem carrierFlows_holds : Rows.CarrierFlowsSaid := carrierFlows.said
end Go.Proofs.Ytkoacclbempmdaa
