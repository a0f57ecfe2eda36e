/- The law CarrierEnds holds for every input: for all works of at most 6 carriers and 14 outlets, or too many, a case, an ID and a supply (at most 100 elements in each list), Ends, CheckEnds and Spans return what the specification returns. No condition beside the row's own. -/
import Derived.Test.YtkoacclbempmdaaQAC
import Derived.Test.YtkoacclbempmdaaQAA
import Derived.Test.YtkoacclbempmdaaGZL
import Derived.Test.YtkoacclbempmdaaGK
namespace Go.Proofs.Ytkoacclbempmdaa
open Go.RowKit

section
variable {P : Program} {ops : Array Oper} {Q : Exit → Act → World → Prop} {md : Region.Mode} {S S' : World → Prop}
/-- What holds behind each operation may say more. -/
theorem wpAnyH_mono (h : ∀ w, S' w → S w) : ∀ (fuel : Nat) (listed : Array Bool) (a : Act) (w : World), wpAnyH P md ops Q S' fuel listed a w → wpAnyH P md ops Q S fuel listed a w
 | 0, _, _, _, H => H
 | fuel + 1, _, _, _, H => ⟨H.1, fun i hi => wpOp_mono (fun a' w' h' => ⟨h w' h'.1, wpAnyH_mono h fuel _ a' w' h'.2⟩) (H.2 i hi)⟩
end

set_option maxHeartbeats 8000000 in
set_option maxRecDepth 1000000 in
theorem rCheckEnds_any (v cv : Value) (u0 u1 u2 u3 u4 u5 u6 u7 : Value) (ws : Wk) (s : Ca) (x y : Wa) (id i d0 lo hi d : Int) (w : World) (h : RK w.heap.size v ws w) (ht : total ws ≤ 100000) (hs : RCa w.heap.size cv s w)
  (hx : RWa w.heap.size (.agg #[u0, u1, u2, u3]) x w) (hy : RWa w.heap.size (.agg #[u4, u5, u6, u7]) y w) (hd : CkE ws s id i d0 lo hi x y d) :
  Calls Try.prog 68 #[.agg #[v], cv, .int .i64 id, .agg #[.int .i64 lo, .int .i64 hi, u0, u1, u2, u3, u4, u5, u6, u7]] w fun e w' => e = .returned (.int .i64 d) ∧ Below w.heap.size w w' := by
 obtain ⟨A, c, rfl, -⟩ := (show ∃ A c, v = .slice A ws.length c ∧ True by obtain ⟨A, c, e, _⟩ := h; exact ⟨A, c, e, trivial⟩)
 obtain ⟨A1, c1, A2, c2, rfl⟩ := hs.form
 have C1 := Lib.hid fun W (hb : Below w.heap.size w W) => rcasedAt_any (.slice A ws.length c) _ ws s id i d0 W (h.up hb.size hb) ht (hs.up hb.size hb) hd.1
 have C2 := Lib.hid fun (n : Nat) (p : Pl) (hw : WOk ws) (hc : CaOk ws s) (hp : (allP ws)[n]? = some p) W (hb : Below w.heap.size w W) => rends_any A c _ ws s n p W (h.up hb.size hb) (hs.up hb.size hb) hw hc hp
 have C3 := Lib.hid fun (d : Int) (hw : WOk ws) (hd : (WaOk ws x ∧ d = 0) ∨ (¬ WaOk ws x ∧ d = 1)) W (hb : Below w.heap.size w W) => rwater_any A c (.agg #[u0, u1, u2, u3]) ws x d W (h.up hb.size hb) (hx.up hb.size hb) hw hd
 have C4 := Lib.hid fun (d : Int) (hw : WOk ws) (hd : (WaOk ws y ∧ d = 0) ∨ (¬ WaOk ws y ∧ d = 1)) W (hb : Below w.heap.size w W) => rwater_any A c (.agg #[u4, u5, u6, u7]) ws y d W (h.up hb.size hb) (hy.up hb.size hb) hw hd
 have C5 := Lib.hid fun (hw : WOk ws) (hc : CaOk ws s) (ho : WaOk ws x) W (hb : Below w.heap.size w W) => rfits_any (.slice A1 s.river.length c1) (.slice A2 s.boards.length c2) u0 u1 u2 u3 x.river x.boards s.river s.boards W (hx.parts.1.up hb.size hb) (hx.parts.2.1.up hb.size hb) (hs.parts.1.up hb.size hb) (hs.parts.2.up hb.size hb) (ho.ca hc).1 (ho.ca hc).2 (by have := hc.b100 hw; omega) (by have := hc.b100 hw; omega)
 have C6 := Lib.hid fun (hw : WOk ws) (hc : CaOk ws s) (ho : WaOk ws y) W (hb : Below w.heap.size w W) => rfits_any (.slice A1 s.river.length c1) (.slice A2 s.boards.length c2) u4 u5 u6 u7 y.river y.boards s.river s.boards W (hy.parts.1.up hb.size hb) (hy.parts.2.1.up hb.size hb) (hs.parts.1.up hb.size hb) (hs.parts.2.up hb.size hb) (ho.ca hc).1 (ho.ca hc).2 (by have := hc.b100 hw; omega) (by have := hc.b100 hw; omega)
 have C7 := Lib.hid fun (hw : WOk ws) (ho : WaOk ws x) W (hb : Below w.heap.size w W) => rflow_any A c (.agg #[u0, u1, u2, u3]) ws x W (h.up hb.size hb) (hx.up hb.size hb) hw ho
 have C8 := Lib.hid fun (hw : WOk ws) (ho : WaOk ws y) W (hb : Below w.heap.size w W) => rflow_any A c (.agg #[u4, u5, u6, u7]) ws y W (h.up hb.size hb) (hy.up hb.size hb) hw ho
 have S0 := Lib.hid (WCS.new w (.slice A ws.length c) (.slice A1 s.river.length c1) (.slice A2 s.boards.length c2) lo hi u0 u1 u2 u3 u4 u5 u6 u7)
 have HD := Lib.hid hd
 clear h hs hx hy hd
 go_enter Try.func68, Try.ntmps68
 go_wp2_with fail
 refine (C1.out _ S0.out.bel).mono ?_
 rintro e w1 ⟨rfl, b1⟩
 have S1 := Lib.hid (S0.out.below b1)
 clear b1 S0 C1
 by_cases hd0 : d0 = 0
 ·subst hd0
  obtain ⟨hw, hc, n, p, rfl, hf, hp⟩ := HD.out.1.ok
  have HX : Hid ((SupOk ws s id n lo hi x y ∧ d = 0) ∨ (¬ SupOk ws s id n lo hi x y ∧ d = 8)) := Lib.hid (by
   rcases HD.out.2 with ⟨a, -⟩ | ⟨-, a⟩ | ⟨-, a⟩
   ·exact absurd rfl a
   ·exact .inl a
   ·exact .inr a)
  have E2 := Lib.hid (C2.out n p hw hc hp)
  rw [fst_id hf hp] at E2
  have HW := Lib.hid hw
  have HC := Lib.hid hc
  have HP := Lib.hid hp
  have HN : Hid (n < total ws ∧ total ws ≤ 60) := Lib.hid ⟨lt_total hp, hw.tot⟩
  obtain ⟨f1, hf1⟩ : ∃ f, flE ws s id n 1 = f := ⟨_, rfl⟩
  obtain ⟨f2, hf2⟩ : ∃ f, flE ws s id n (-1) = f := ⟨_, rfl⟩
  obtain ⟨q1, hq1⟩ : ∃ q, (allIn x.river s.river && allIn x.boards s.boards) = q := ⟨_, rfl⟩
  obtain ⟨q2, hq2⟩ : ∃ q, (allIn y.river s.river && allIn y.boards s.boards) = q := ⟨_, rfl⟩
  obtain ⟨fx, hfx⟩ : ∃ f, (flowF ws x).thr.getD n 0 = f := ⟨_, rfl⟩
  obtain ⟨fy, hfy⟩ : ∃ f, (flowF ws y).thr.getD n 0 = f := ⟨_, rfl⟩
  have HS : Hid (SupOk ws s id n lo hi x y ↔ ((lo = f1 ∧ hi = f2) ∧ (WaOk ws x ∧ q1 = true ∧ fx = lo) ∧ WaOk ws y ∧ q2 = true ∧ fy = hi)) := Lib.hid (by unfold SupOk gvB; rw [hf1, hf2, hq1, hq2, hfx, hfy])
  have HFX := Lib.hid hfx
  have HFY := Lib.hid hfy
  rw [hf1, hf2] at E2
  rw [hq1] at C5
  rw [hq2] at C6
  have SF := Lib.hid fun w (a1 a2 a3 a4 d1 d2 d3 d4 : Value) => sup_flow f1 f2 w (a1 := a1) (a2 := a2) (a3 := a3) (a4 := a4) (d1 := d1) (d2 := d2) (d3 := d3) (d4 := d4)
  clear hw hc hf hp hf1 hf2 hq1 hq2 hfx hfy C2
  have z0 := S1.out.v0
  have z1 := S1.out.a0
  have z2 := S1.out.a1
  have y0 := S1.out.s0
  have y1 := S1.out.s1
  have y2 := S1.out.s2
  have y3 := S1.out.s3
  have y4 := S1.out.s4
  have y5 := S1.out.s5
  have y6 := S1.out.s6
  have y7 := S1.out.s7
  have y8 := S1.out.s8
  have y9 := S1.out.s9
  go_upto_region 4 with fail
  refine wp_region_held_drew (S := BelS w1) (by kernel_rfl) (BelS.drew0 _) (fun J0 => ?_)
  have KK1 := Lib.hid fun (w_ : World) (hSw : BelS _ w_) => And.intro (hSw.c z0) (And.intro (hSw.c z1) (And.intro (hSw.c z2) (And.intro (hSw.c y0) (And.intro (hSw.c y1) (And.intro (hSw.c y2) (And.intro (hSw.c y3) (And.intro (hSw.c y4) (And.intro (hSw.c y5) (And.intro (hSw.c y6) (And.intro (hSw.c y7) (And.intro (hSw.c y8) (hSw.c y9))))))))))))
  refine tk KK1 0 23 J0 ?_
  try simp only [aS]
  refine tk KK1 1 24 J0 ?_
  try simp only [aS]
  refine tk KK1 2 25 J0 ?_
  try simp only [aS]
  by_cases hwx : WaOk ws x
  ·have HWX := Lib.hid hwx
   refine wpAnyH_ready (rs := [3]) (by kernel_rfl) (by simp) ?_
   refine AllReadyH.cons rfl (fun K hK => ?_) AllReadyH.nil
   go_simp
   refine (C3.out 0 HW.out (.inl ⟨HWX.out, rfl⟩) _ (S1.out.bel.trans ((BelS.b J0).mono S1.out.bel.size))).mono ?_
   rintro e wqJ1 ⟨rfl, bq⟩
   have J1 := J0.below bq
   clear bq

   refine hK.out _ _ J1 (fun _ => ?_)
   clear hK K
   try simp only [aS]
   refine tk KK1 4 27 J1 ?_
   try simp only [aS]
   refine tk KK1 5 28 J1 ?_
   try simp only [aS]
   refine tk KK1 6 29 J1 ?_
   try simp only [aS]
   refine tk KK1 7 30 J1 ?_
   try simp only [aS]
   refine tk KK1 8 31 J1 ?_
   try simp only [aS]
   by_cases hwy : WaOk ws y
   ·have HWY := Lib.hid hwy
    refine wpAnyH_ready (rs := [9]) (by kernel_rfl) (by simp) ?_
    refine AllReadyH.cons rfl (fun K hK => ?_) AllReadyH.nil
    go_simp
    refine (C4.out 0 HW.out (.inl ⟨HWY.out, rfl⟩) _ (S1.out.bel.trans ((BelS.b J1).mono S1.out.bel.size))).mono ?_
    rintro e wqJ2 ⟨rfl, bq⟩
    have J2 := J1.below bq
    clear bq

    refine hK.out _ _ J2 (fun _ => ?_)
    clear hK K
    try simp only [aS]
    refine tk KK1 10 33 J2 ?_
    try simp only [aS]
    refine tk KK1 11 34 J2 ?_
    try simp only [aS]
    refine tk KK1 12 35 J2 ?_
    try simp only [aS]
    refine tk KK1 13 36 J2 ?_
    try simp only [aS]
    refine tk KK1 14 37 J2 ?_
    try simp only [aS]
    refine tk KK1 15 38 J2 ?_
    try simp only [aS]
    refine tk KK1 16 39 J2 ?_
    try simp only [aS]
    refine tk KK1 17 40 J2 ?_
    try simp only [aS]
    refine wpAnyH_ready (rs := [18]) (by kernel_rfl) (by simp) ?_
    refine AllReadyH.cons rfl (fun K hK => ?_) AllReadyH.nil
    go_simp
    refine (E2.out _ (S1.out.bel.trans ((BelS.b J2).mono S1.out.bel.size))).mono ?_
    rintro e wqJ3 ⟨a1, a2, a3, a4, d1, d2, d3, d4, rfl, -, -, bq⟩
    have J3 := J2.below bq
    clear bq

    refine hK.out _ _ J3 (fun _ => ?_)
    clear hK K
    try simp only [aS]
    refine tw 19 42 J3 ?_ (hy := by intro w' hSw; have sf := SF.out w' a1 a2 a3 a4 d1 d2 d3 d4; go_simp; try with_reducible rfl)
    try simp only [aS]
    refine takeW (i := 20) (d := some 43) (v := .bool (!(decide (lo = f1) && decide (hi = f2)))) rfl rfl (by kernel_rfl) (by kernel_rfl) (by kernel_rfl) (fun _ _ _ h => h) (by rfl) ?_ J3 ?_
    ·(intro w' hSw; go_simp; by_cases e1 : lo = f1 <;> by_cases e2 : hi = f2 <;> simp [e1, e2])
    try simp only [aS]
    refine tk KK1 21 44 J3 ?_
    try simp only [aS]
    refine wpAnyH_done (by kernel_rfl) ?_ _
    have S2 := Lib.hid (S1.out.below (BelS.b J3))
    clear J0 J1 J2 J3 z0 z1 z2 y0 y1 y2 y3 y4 y5 y6 y7 y8 y9 S1 hwx hwy
    obtain ⟨W2, hW2⟩ : ∃ W2, wqJ3 = W2 := ⟨_, rfl⟩
    rw [hW2] at S2 ⊢
    clear hW2
    by_cases hfl : lo = f1 ∧ hi = f2
    ·have hfb : (!(decide (lo = f1) && decide (hi = f2))) = false := by simp [hfl]
     have hfb2 : (!decide (lo = f1) || !decide (hi = f2)) = false := by simp [hfl]
     rw [hfb, hfb2]
     have HFL := Lib.hid hfl
     have z0 := S2.out.v0
     have z1 := S2.out.a0
     have z2 := S2.out.a1
     have y0 := S2.out.s0
     have y1 := S2.out.s1
     have y2 := S2.out.s2
     have y3 := S2.out.s3
     have y4 := S2.out.s4
     have y5 := S2.out.s5
     have y6 := S2.out.s6
     have y7 := S2.out.s7
     have y8 := S2.out.s8
     have y9 := S2.out.s9

     clear hfl hfb hfb2
     go_wp2_with fail
     refine (C5.out HW.out HC.out HWX.out _ S2.out.bel).mono ?_
     rintro e w3 ⟨rfl, b1⟩
     have S3 := Lib.hid (S2.out.below b1)
     clear b1 z0 z1 z2 y0 y1 y2 y3 y4 y5 y6 y7 y8 y9
     have z1 := S3.out.a0
     have z2 := S3.out.a1
     have y0 := S3.out.s0
     have y1 := S3.out.s1
     have y2 := S3.out.s2
     have y3 := S3.out.s3
     have y4 := S3.out.s4
     have y5 := S3.out.s5
     have y6 := S3.out.s6
     have y7 := S3.out.s7
     have y8 := S3.out.s8
     have y9 := S3.out.s9

     go_wp2_with fail
     refine (C6.out HW.out HC.out HWY.out _ S3.out.bel).mono ?_
     rintro e w4 ⟨rfl, b1⟩
     have S4 := Lib.hid (S3.out.below b1)
     clear b1 z1 z2 y0 y1 y2 y3 y4 y5 y6 y7 y8 y9
     have z0 := S4.out.v0
     have z1 := S4.out.a0
     have z2 := S4.out.a1
     have y0 := S4.out.s0
     have y1 := S4.out.s1
     have y2 := S4.out.s2
     have y3 := S4.out.s3
     have y4 := S4.out.s4
     have y5 := S4.out.s5
     have y6 := S4.out.s6
     have y7 := S4.out.s7
     have y8 := S4.out.s8
     have y9 := S4.out.s9

     obtain ⟨ax, hax⟩ : ∃ f, (flowF ws x).thr[n]? = some f := ⟨_, List.getElem?_eq_getElem (by have := thr_len ws x (total ws) (Nat.le_refl _); have := HN.out; show n < (flowTo ws x (total ws)).thr.length; omega)⟩
     obtain ⟨ay, hay⟩ : ∃ f, (flowF ws y).thr[n]? = some f := ⟨_, List.getElem?_eq_getElem (by have := thr_len ws y (total ws) (Nat.le_refl _); have := HN.out; show n < (flowTo ws y (total ws)).thr.length; omega)⟩
     obtain rfl : ax = fx := by rw [← HFX.out, List.getD_eq_getElem?_getD, hax]; rfl
     obtain rfl : ay = fy := by rw [← HFY.out, List.getD_eq_getElem?_getD, hay]; rfl
     obtain ⟨nt, hnt⟩ : ∃ nt, total ws = nt := ⟨_, rfl⟩
     have HTX : Hid ((flowF ws x).thr.length = nt ∧ (flowF ws x).thr[n]? = some ax) := Lib.hid ⟨by rw [← hnt]; exact thr_len ws x (total ws) (Nat.le_refl _), hax⟩
     have HTY : Hid ((flowF ws y).thr.length = nt ∧ (flowF ws y).thr[n]? = some ay) := Lib.hid ⟨by rw [← hnt]; exact thr_len ws y (total ws) (Nat.le_refl _), hay⟩
     have hn1 : (n : Int) < (nt : Int) := by have := HN.out; omega
     have hn2 : (0 : Int) ≤ (n : Int) := by omega
     have HN60 : Hid (nt ≤ 60) := Lib.hid (by have := HN.out; omega)
     clear hax hay hnt
     go_upto_region 8 with fail
     refine wp_region_held_drew (S := BelS w4) (by kernel_rfl) (BelS.drew0 _) (fun J0 => ?_)
     have KK2 := Lib.hid fun (w_ : World) (hSw : BelS _ w_) => And.intro (hSw.c z0) (And.intro (hSw.c z1) (And.intro (hSw.c z2) (And.intro (hSw.c y0) (And.intro (hSw.c y1) (And.intro (hSw.c y2) (And.intro (hSw.c y3) (And.intro (hSw.c y4) (And.intro (hSw.c y5) (And.intro (hSw.c y6) (And.intro (hSw.c y7) (And.intro (hSw.c y8) (hSw.c y9))))))))))))
     refine tk KK2 0 53 J0 ?_
     try simp only [aS]
     refine tk KK2 1 54 J0 ?_
     try simp only [aS]
     refine tk KK2 2 55 J0 ?_
     try simp only [aS]
     cases q1 with
     | false =>
      have hv : d = 8 := HX.out.elim (fun h => by have := (HS.out.1 h.1).2.1.2.1; cases this) (·.2)
      refine sw 3 56 J0 ?_
      try simp only [aS]
      refine sw 4 57 J0 ?_
      try simp only [aS]
      refine tk KK2 5 58 J0 ?_
      try simp only [aS]
      refine tk KK2 6 59 J0 ?_
      try simp only [aS]
      refine sw 7 60 J0 ?_
      try simp only [aS]
      refine sw 8 61 J0 ?_
      try simp only [aS]
      refine sw 9 62 J0 ?_
      try simp only [aS]
      refine sw 10 63 J0 ?_
      try simp only [aS]
      refine sw 11 64 J0 ?_
      try simp only [aS]
      refine sw 12 65 J0 ?_
      try simp only [aS]
      refine sw 13 66 J0 ?_
      try simp only [aS]
      refine sw 14 67 J0 ?_
      try simp only [aS]
      refine sw 15 68 J0 ?_
      try simp only [aS]
      refine sw 16 69 J0 ?_
      try simp only [aS]
      refine sw 17 70 J0 ?_
      try simp only [aS]
      refine sw 18 71 J0 ?_
      try simp only [aS]
      refine tk KK2 19 72 J0 ?_
      try simp only [aS]
      refine tk KK2 20 73 J0 ?_
      try simp only [aS]
      refine sw 21 74 J0 ?_
      try simp only [aS]
      refine sw 22 75 J0 ?_
      try simp only [aS]
      refine sw 23 76 J0 ?_
      try simp only [aS]
      refine sw 24 77 J0 ?_
      try simp only [aS]
      refine sw 25 78 J0 ?_
      try simp only [aS]
      refine sw 26 79 J0 ?_
      try simp only [aS]
      refine sw 27 80 J0 ?_
      try simp only [aS]
      refine sw 28 81 J0 ?_
      try simp only [aS]
      refine sw 29 82 J0 ?_
      try simp only [aS]
      refine sw 30 83 J0 ?_
      try simp only [aS]
      refine sw 31 84 J0 ?_
      try simp only [aS]
      refine sw 32 85 J0 ?_
      try simp only [aS]
      refine tk KK2 33 86 J0 ?_
      try simp only [aS]
      refine wpAnyH_done (by kernel_rfl) ?_ _
      have S9 := Lib.hid (S4.out.below (BelS.b J0))
      go_wp2_with fail
      go_ret
      exact ⟨by first | rfl | (rw [hv]; rfl), S9.out.bel⟩
     | true =>
      refine tk KK2 3 56 J0 ?_
      try simp only [aS]
      refine tk KK2 4 57 J0 ?_
      try simp only [aS]
      cases q2 with
      | false =>
       have hv : d = 8 := HX.out.elim (fun h => by have := (HS.out.1 h.1).2.2.2.1; cases this) (·.2)
       refine tk KK2 5 58 J0 ?_
       try simp only [aS]
       refine tk KK2 6 59 J0 ?_
       try simp only [aS]
       refine sw 7 60 J0 ?_
       try simp only [aS]
       refine sw 8 61 J0 ?_
       try simp only [aS]
       refine sw 9 62 J0 ?_
       try simp only [aS]
       refine sw 10 63 J0 ?_
       try simp only [aS]
       refine sw 11 64 J0 ?_
       try simp only [aS]
       refine sw 12 65 J0 ?_
       try simp only [aS]
       refine sw 13 66 J0 ?_
       try simp only [aS]
       refine sw 14 67 J0 ?_
       try simp only [aS]
       refine sw 15 68 J0 ?_
       try simp only [aS]
       refine sw 16 69 J0 ?_
       try simp only [aS]
       refine sw 17 70 J0 ?_
       try simp only [aS]
       refine sw 18 71 J0 ?_
       try simp only [aS]
       refine tk KK2 19 72 J0 ?_
       try simp only [aS]
       refine tk KK2 20 73 J0 ?_
       try simp only [aS]
       refine sw 21 74 J0 ?_
       try simp only [aS]
       refine sw 22 75 J0 ?_
       try simp only [aS]
       refine sw 23 76 J0 ?_
       try simp only [aS]
       refine sw 24 77 J0 ?_
       try simp only [aS]
       refine sw 25 78 J0 ?_
       try simp only [aS]
       refine sw 26 79 J0 ?_
       try simp only [aS]
       refine sw 27 80 J0 ?_
       try simp only [aS]
       refine sw 28 81 J0 ?_
       try simp only [aS]
       refine sw 29 82 J0 ?_
       try simp only [aS]
       refine sw 30 83 J0 ?_
       try simp only [aS]
       refine sw 31 84 J0 ?_
       try simp only [aS]
       refine sw 32 85 J0 ?_
       try simp only [aS]
       refine tk KK2 33 86 J0 ?_
       try simp only [aS]
       refine wpAnyH_done (by kernel_rfl) ?_ _
       have S9 := Lib.hid (S4.out.below (BelS.b J0))
       go_wp2_with fail
       go_ret
       exact ⟨by first | rfl | (rw [hv]; rfl), S9.out.bel⟩
      | true =>
       refine tk KK2 5 58 J0 ?_
       try simp only [aS]
       refine tk KK2 6 59 J0 ?_
       try simp only [aS]
       refine tk KK2 7 60 J0 ?_
       try simp only [aS]
       refine tk KK2 8 61 J0 ?_
       try simp only [aS]
       refine tk KK2 9 62 J0 ?_
       try simp only [aS]
       refine tk KK2 12 65 J0 ?_
       try simp only [aS]
       refine tk KK2 15 68 J0 ?_
       try simp only [aS]
       refine tk KK2 16 69 J0 ?_
       try simp only [aS]
       refine tk KK2 17 70 J0 ?_
       try simp only [aS]
       refine wpAnyH_ready (rs := [10]) (by kernel_rfl) (by simp) ?_
       refine AllReadyH.cons rfl (fun K hK => ?_) AllReadyH.nil
       go_simp
       refine (C7.out HW.out HWX.out _ (S4.out.bel.trans ((BelS.b J0).mono S4.out.bel.size))).mono ?_
       rintro e wqJ1 ⟨vx, ux, rfl, ox, px_, bq⟩
       have rrx := ox.rr EI (by rw [HTX.out.1]; have := HN60.out; show nt ≤ 1000000000000000; omega)
       obtain ⟨Lx, cx, rfl, -⟩ := ox.form
       obtain ⟨Mx, ex, rfl, -⟩ := px_.form
       obtain ⟨mx, hmx⟩ : ∃ m, (tailsL ws x).length = m := ⟨_, rfl⟩
       obtain ⟨lox, hlox⟩ : ∃ m, (flowF ws x).lost = m := ⟨_, rfl⟩
       rw [hmx, hlox]
       obtain ⟨blx, kx, rfl, -, qqx⟩ := rrx.int HTX.out.2
       rw [HTX.out.1]
       have FFx := fun W => fl_field0 (some ⟨blx, kx, none⟩) Mx nt cx mx ex lox W
       have JxJ1 := J0.below bq
       have J1d : BelS w4 wqJ1 := J0.below bq
       refine hK.out _ _ JxJ1 (fun _ => ?_)
       clear hK K bq
       refine wpAnyH_mono (S' := BelS wqJ1) (fun W h => Below.trans JxJ1 (h.mono (Below.size JxJ1))) _ _ _ _ ?_
       have J1 : BelS wqJ1 wqJ1 := Below.refl _ _
       try simp only [aS]
       refine tw 11 64 J1 ?_ (hy := by intro w' hSw; have r1 := FFx w'; go_simp; try with_reducible rfl)
       try simp only [aS]
       refine tw 13 66 J1 ?_
       try simp only [aS]
       refine tw 14 67 J1 ?_ (hy := by intro w' hSw; have r1 := hSw.c qqx; go_simp; try with_reducible rfl)
       try simp only [aS]
       by_cases hex : ax = lo
       ·have hexb : ((ax : Int) != lo) = false := by rw [bne_eq_false_iff_eq]; exact hex
        refine tw 18 71 J1 ?_
        try simp only [aS]
        refine tw 19 72 J1 ?_
        try simp only [aS]
        refine tw 20 73 J1 ?_
        try simp only [aS]
        have z0 := BelS.c J1d z0
        have y0 := BelS.c J1d y0
        have y1 := BelS.c J1d y1
        have y2 := BelS.c J1d y2
        have y3 := BelS.c J1d y3
        have y4 := BelS.c J1d y4
        have y5 := BelS.c J1d y5
        have y6 := BelS.c J1d y6
        have y7 := BelS.c J1d y7
        have y8 := BelS.c J1d y8
        have y9 := BelS.c J1d y9
        have KK3 := Lib.hid fun (w_ : World) (hSw : BelS _ w_) => And.intro (hSw.c z0) (And.intro (hSw.c y0) (And.intro (hSw.c y1) (And.intro (hSw.c y2) (And.intro (hSw.c y3) (And.intro (hSw.c y4) (And.intro (hSw.c y5) (And.intro (hSw.c y6) (And.intro (hSw.c y7) (And.intro (hSw.c y8) (hSw.c y9))))))))))
        refine tk KK3 21 74 J1 ?_
        try simp only [aS]
        refine tk KK3 22 75 J1 ?_
        try simp only [aS]
        refine tk KK3 23 76 J1 ?_
        try simp only [aS]
        refine tk KK3 26 79 J1 ?_
        try simp only [aS]
        refine tk KK3 29 82 J1 ?_
        try simp only [aS]
        refine tk KK3 30 83 J1 ?_
        try simp only [aS]
        refine tk KK3 31 84 J1 ?_
        try simp only [aS]
        refine wpAnyH_ready (rs := [24]) (by kernel_rfl) (by simp) ?_
        refine AllReadyH.cons rfl (fun K hK => ?_) AllReadyH.nil
        go_simp
        refine (C8.out HW.out HWY.out _ (S4.out.bel.trans ((BelS.b J1d).mono S4.out.bel.size))).mono ?_
        rintro e wqJ2 ⟨vy, uy, rfl, oy, py_, bq⟩
        have rry := oy.rr EI (by rw [HTY.out.1]; have := HN60.out; show nt ≤ 1000000000000000; omega)
        obtain ⟨Ly, cy, rfl, -⟩ := oy.form
        obtain ⟨My, ey, rfl, -⟩ := py_.form
        obtain ⟨my, hmy⟩ : ∃ m, (tailsL ws y).length = m := ⟨_, rfl⟩
        obtain ⟨loy, hloy⟩ : ∃ m, (flowF ws y).lost = m := ⟨_, rfl⟩
        rw [hmy, hloy]
        obtain ⟨bly, ky, rfl, -, qqy⟩ := rry.int HTY.out.2
        rw [HTY.out.1]
        have FFy := fun W => fl_field0 (some ⟨bly, ky, none⟩) My nt cy my ey loy W
        have JxJ2 := J1.below bq
        have J2d : BelS w4 wqJ2 := J1d.below bq
        refine hK.out _ _ JxJ2 (fun _ => ?_)
        clear hK K bq
        refine wpAnyH_mono (S' := BelS wqJ2) (fun W h => Below.trans JxJ2 (h.mono (Below.size JxJ2))) _ _ _ _ ?_
        have J2 : BelS wqJ2 wqJ2 := Below.refl _ _
        try simp only [aS]
        refine tw 25 78 J2 ?_ (hy := by intro w' hSw; have r1 := FFy w'; go_simp; try with_reducible rfl)
        try simp only [aS]
        refine tw 27 80 J2 ?_
        try simp only [aS]
        refine tw 28 81 J2 ?_ (hy := by intro w' hSw; have r1 := hSw.c qqy; go_simp; try with_reducible rfl)
        try simp only [aS]
        by_cases hey : ay = hi
        ·have heyb : ((ay : Int) != hi) = false := by rw [bne_eq_false_iff_eq]; exact hey
         have hv : d = 0 := HX.out.elim (·.2) (fun h => absurd (HS.out.2 ⟨HFL.out, ⟨HWX.out, rfl, hex⟩, HWY.out, rfl, hey⟩) h.1)
         refine tw 32 85 J2 ?_
         try simp only [aS]
         refine tw 33 86 J2 ?_
         try simp only [aS]
         refine wpAnyH_done (by kernel_rfl) ?_ _
         have S9 := Lib.hid (S4.out.below (BelS.b J2d))
         go_wp2_with fail
         go_ret
         exact ⟨by first | rfl | (rw [hv]; rfl), S9.out.bel⟩
        ·have heyb : ((ay : Int) != hi) = true := by rw [bne_iff_ne]; exact hey
         have hv : d = 8 := HX.out.elim (fun h => absurd (HS.out.1 h.1).2.2.2.2 hey) (·.2)
         refine tw 32 85 J2 ?_
         try simp only [aS]
         refine tw 33 86 J2 ?_
         try simp only [aS]
         refine wpAnyH_done (by kernel_rfl) ?_ _
         have S9 := Lib.hid (S4.out.below (BelS.b J2d))
         go_wp2_with fail
         go_ret
         exact ⟨by first | rfl | (rw [hv]; rfl), S9.out.bel⟩
       ·have hexb : ((ax : Int) != lo) = true := by rw [bne_iff_ne]; exact hex
        have hv : d = 8 := HX.out.elim (fun h => absurd (HS.out.1 h.1).2.1.2.2 hex) (·.2)
        refine tw 18 71 J1 ?_
        try simp only [aS]
        refine tw 19 72 J1 ?_
        try simp only [aS]
        refine tw 20 73 J1 ?_
        try simp only [aS]
        refine sw 21 74 J1 ?_
        try simp only [aS]
        refine sw 22 75 J1 ?_
        try simp only [aS]
        refine sw 23 76 J1 ?_
        try simp only [aS]
        refine sw 24 77 J1 ?_
        try simp only [aS]
        refine sw 25 78 J1 ?_
        try simp only [aS]
        refine sw 26 79 J1 ?_
        try simp only [aS]
        refine sw 27 80 J1 ?_
        try simp only [aS]
        refine sw 28 81 J1 ?_
        try simp only [aS]
        refine sw 29 82 J1 ?_
        try simp only [aS]
        refine sw 30 83 J1 ?_
        try simp only [aS]
        refine sw 31 84 J1 ?_
        try simp only [aS]
        refine sw 32 85 J1 ?_
        try simp only [aS]
        refine tw 33 86 J1 ?_
        try simp only [aS]
        refine wpAnyH_done (by kernel_rfl) ?_ _
        have S9 := Lib.hid (S4.out.below (BelS.b J1d))
        go_wp2_with fail
        go_ret
        exact ⟨by first | rfl | (rw [hv]; rfl), S9.out.bel⟩
    ·have hfb : (!(decide (lo = f1) && decide (hi = f2))) = true := by
      rw [Bool.not_eq_true', Bool.and_eq_false_iff, decide_eq_false_iff_not, decide_eq_false_iff_not]
      by_cases e : lo = f1
      ·exact .inr (fun e2 => hfl ⟨e, e2⟩)
      ·exact .inl e
     have hfb2 : (!decide (lo = f1) || !decide (hi = f2)) = true := by rw [← Bool.not_and]; exact hfb
     rw [hfb, hfb2]
     have hv : d = 8 := HX.out.elim (fun h => absurd (HS.out.1 h.1).1 hfl) (·.2)
     clear hfb hfb2
     go_wp2_with fail
     go_ret
     exact ⟨by first | rfl | (rw [hv]; rfl), S2.out.bel⟩
   ·have HWY := Lib.hid hwy
    have hv : d = 8 := HX.out.elim (fun h => absurd (HS.out.1 h.1).2.2.1 hwy) (·.2)
    refine wpAnyH_ready (rs := [9]) (by kernel_rfl) (by simp) ?_
    refine AllReadyH.cons rfl (fun K hK => ?_) AllReadyH.nil
    go_simp
    refine (C4.out 1 HW.out (.inr ⟨HWY.out, rfl⟩) _ (S1.out.bel.trans ((BelS.b J1).mono S1.out.bel.size))).mono ?_
    rintro e wqJ2 ⟨rfl, bq⟩
    have J2 := J1.below bq
    clear bq

    refine hK.out _ _ J2 (fun _ => ?_)
    clear hK K
    try simp only [aS]
    have KK4 := Lib.hid fun (w_ : World) (hSw : BelS _ w_) => And.intro (hSw.c z0) (And.intro (hSw.c z1) (And.intro (hSw.c z2) (And.intro (hSw.c y0) (And.intro (hSw.c y1) (And.intro (hSw.c y2) (And.intro (hSw.c y3) (And.intro (hSw.c y4) (And.intro (hSw.c y5) (And.intro (hSw.c y6) (And.intro (hSw.c y7) (And.intro (hSw.c y8) (hSw.c y9))))))))))))
    refine tk KK4 10 33 J2 ?_
    try simp only [aS]
    refine tk KK4 11 34 J2 ?_
    try simp only [aS]
    refine tk KK4 12 35 J2 ?_
    try simp only [aS]
    refine sw 13 36 J2 ?_
    try simp only [aS]
    refine sw 14 37 J2 ?_
    try simp only [aS]
    refine sw 15 38 J2 ?_
    try simp only [aS]
    refine sw 16 39 J2 ?_
    try simp only [aS]
    refine sw 17 40 J2 ?_
    try simp only [aS]
    refine sw 18 41 J2 ?_
    try simp only [aS]
    refine sw 19 42 J2 ?_
    try simp only [aS]
    refine sw 20 43 J2 ?_
    try simp only [aS]
    refine tk KK4 21 44 J2 ?_
    try simp only [aS]
    refine wpAnyH_done (by kernel_rfl) ?_ _
    have S9 := Lib.hid (S1.out.below (BelS.b J2))
    go_wp2_with fail
    go_ret
    exact ⟨by first | rfl | (rw [hv]; rfl), S9.out.bel⟩
  ·have HWX := Lib.hid hwx
   have hv : d = 8 := HX.out.elim (fun h => absurd (HS.out.1 h.1).2.1.1 hwx) (·.2)
   refine wpAnyH_ready (rs := [3]) (by kernel_rfl) (by simp) ?_
   refine AllReadyH.cons rfl (fun K hK => ?_) AllReadyH.nil
   go_simp
   refine (C3.out 1 HW.out (.inr ⟨HWX.out, rfl⟩) _ (S1.out.bel.trans ((BelS.b J0).mono S1.out.bel.size))).mono ?_
   rintro e wqJ1 ⟨rfl, bq⟩
   have J1 := J0.below bq
   clear bq

   refine hK.out _ _ J1 (fun _ => ?_)
   clear hK K
   try simp only [aS]
   have KK5 := Lib.hid fun (w_ : World) (hSw : BelS _ w_) => And.intro (hSw.c z0) (And.intro (hSw.c z1) (And.intro (hSw.c z2) (And.intro (hSw.c y0) (And.intro (hSw.c y1) (And.intro (hSw.c y2) (And.intro (hSw.c y3) (And.intro (hSw.c y4) (And.intro (hSw.c y5) (And.intro (hSw.c y6) (And.intro (hSw.c y7) (And.intro (hSw.c y8) (hSw.c y9))))))))))))
   refine tk KK5 4 27 J1 ?_
   try simp only [aS]
   refine tk KK5 5 28 J1 ?_
   try simp only [aS]
   refine sw 6 29 J1 ?_
   try simp only [aS]
   refine sw 7 30 J1 ?_
   try simp only [aS]
   refine sw 8 31 J1 ?_
   try simp only [aS]
   refine sw 9 32 J1 ?_
   try simp only [aS]
   refine sw 10 33 J1 ?_
   try simp only [aS]
   refine tk KK5 11 34 J1 ?_
   try simp only [aS]
   refine tk KK5 12 35 J1 ?_
   try simp only [aS]
   refine sw 13 36 J1 ?_
   try simp only [aS]
   refine sw 14 37 J1 ?_
   try simp only [aS]
   refine sw 15 38 J1 ?_
   try simp only [aS]
   refine sw 16 39 J1 ?_
   try simp only [aS]
   refine sw 17 40 J1 ?_
   try simp only [aS]
   refine sw 18 41 J1 ?_
   try simp only [aS]
   refine sw 19 42 J1 ?_
   try simp only [aS]
   refine sw 20 43 J1 ?_
   try simp only [aS]
   refine tk KK5 21 44 J1 ?_
   try simp only [aS]
   refine wpAnyH_done (by kernel_rfl) ?_ _
   have S9 := Lib.hid (S1.out.below (BelS.b J1))
   go_wp2_with fail
   go_ret
   exact ⟨by first | rfl | (rw [hv]; rfl), S9.out.bel⟩
 ·have hdb : (d0 != 0) = true := by rw [bne_iff_ne]; exact hd0
  have hv : d = d0 := by
   rcases HD.out.2 with ⟨-, a⟩ | ⟨a, -⟩ | ⟨a, -⟩
   ·exact a
   ·exact absurd a hd0
   ·exact absurd a hd0
  go_wp2_with fail
  go_ret
  exact ⟨by first | rfl | (rw [hv]; rfl), S1.out.bel⟩
end Go.Proofs.Ytkoacclbempmdaa

/- Contract of the laws' wet. -/
namespace Go.Proofs.Ytkoacclbempmdaa
open Go.RowKit

def WetPost (s : Wa) (w : World) (e : Ending) (w' : World) : Prop := ∃ b, e = .returned (.bool b) ∧ (b = true → s.river.length ≤ 100 ∧ s.boards.length ≤ 100 ∧ s.leaks.length ≤ 100 ∧ s.losses.length ≤ 100) ∧ Below w.heap.size w w'
set_option maxHeartbeats 8000000 in
set_option maxRecDepth 1000000 in
theorem wet_any (v : Value) (s : Wa) (w : World) (h : RWa w.heap.size v s w) : Calls Try.prog 19 #[v] w (WetPost s w) := by
 obtain ⟨A1, c1, A2, c2, A3, c3, A4, c4, rfl⟩ := h.form
 clear h
 have hs : (100 : Int) < (s.river.length : Int) ∨ ((s.river.length : Int) ≤ 100 ∧ (100 : Int) < (s.boards.length : Int)) ∨ ((s.river.length : Int) ≤ 100 ∧ (s.boards.length : Int) ≤ 100 ∧ (100 : Int) < (s.leaks.length : Int)) ∨ ((s.river.length : Int) ≤ 100 ∧ (s.boards.length : Int) ≤ 100 ∧ (s.leaks.length : Int) ≤ 100 ∧ (100 : Int) < (s.losses.length : Int)) ∨ ((s.river.length : Int) ≤ 100 ∧ (s.boards.length : Int) ≤ 100 ∧ (s.leaks.length : Int) ≤ 100 ∧ (s.losses.length : Int) ≤ 100) := by omega
 have HB : Hid (Below w.heap.size w (w.alloc (.cells #[.slice A1 s.river.length c1, .slice A2 s.boards.length c2, .slice A3 s.leaks.length c3, .slice A4 s.losses.length c4] 27))) := Lib.hid ((Below.refl _ _).alloc (Nat.le_refl _) _)
 rcases hs with h1 | ⟨h1, h2⟩ | ⟨h1, h2, h3⟩ | ⟨h1, h2, h3, h4⟩ | ⟨h1, h2, h3, h4⟩
 all_goals
  go_enter Try.func19, Try.ntmps19
  go_wp2_with fail
  go_ret
  first
   | exact ⟨false, rfl, (fun h => by cases h), HB.out⟩
   | exact ⟨true, rfl, (fun _ => by omega), HB.out⟩
   | exact ⟨_, rfl, (fun h => by have := of_decide_eq_true h; omega), HB.out⟩

end Go.Proofs.Ytkoacclbempmdaa

/- The law CarrierEnds, by its walk. -/
namespace Go.Proofs.Ytkoacclbempmdaa
open Go.RowKit

/-- The cells of a block. -/
structure BlkN (b : Nat) (l : List Value) (W : World) : Prop where
 c : ∀ (k : Nat) (v : Value), l[k]? = some v → W.cell? ⟨b, k, none⟩ = some v
 lt : b < W.heap.size
theorem BlkN.below {b : Nat} {l : List Value} {W W' : World} (h : BlkN b l W) (hb : Below W.heap.size W W') : BlkN b l W' := ⟨fun k v hk => (hb.cell (p := ⟨b, k, none⟩) h.lt).trans (h.c k v hk), Nat.lt_of_lt_of_le h.lt hb.size⟩
theorem BlkN.new (W : World) (l : List Value) (t : TypeId) : BlkN W.heap.size l (W.alloc (.cells l.toArray t)) := by
 refine ⟨fun k v hk => ?_, by simp⟩
 have hb := World.alloc_heap_new W (.cells l.toArray t)
 rw [cell_of_row _ _ k _ _ _ hb]
 simpa using hk
/-- Water of one's own, opened. -/
theorem OW.slices {base : Nat} {a b c d : Value} {x : Wa} {W : World} (h : OW base (.agg #[a, b, c, d]) x W) : ∃ A1 c1 A2 c2 A3 c3 A4 c4, a = .slice A1 x.river.length c1 ∧ b = .slice A2 x.boards.length c2 ∧ c = .slice A3 x.leaks.length c3 ∧ d = .slice A4 x.losses.length c4 := by
 obtain ⟨A1, c1, A2, c2, A3, c3, A4, c4, e⟩ := h.form
 simp only [Value.agg.injEq, Array.mk.injEq, List.cons.injEq, and_true] at e
 exact ⟨A1, c1, A2, c2, A3, c3, A4, c4, e⟩
theorem OW.bs {base : Nat} {v : Value} {x : Wa} {W : World} (h : OW base v x W) : x.river.length ≤ 1000 ∧ x.boards.length ≤ 1000 ∧ x.leaks.length ≤ 1000 ∧ x.losses.length ≤ 1000 := by
 obtain ⟨_, _, _, _, _, _, _, _, _, h⟩ := h
 exact h

set_option maxHeartbeats 16000000 in
set_option maxRecDepth 1000000 in
theorem ends_law (A : Option Addr) (c : Nat) (cv : Value) (u0 u1 u2 u3 u4 u5 u6 u7 : Value) (ws : Wk) (s : Ca) (x y : Wa) (id lo hi : Int) (w : World) (h : RK w.heap.size (.slice A ws.length c) ws w) (hs : RCa w.heap.size cv s w)
  (hx : RWa w.heap.size (.agg #[u0, u1, u2, u3]) x w) (hy : RWa w.heap.size (.agg #[u4, u5, u6, u7]) y w) (hid : (Lit.int .i64 id).wf = true) :
  Calls Try.prog 13 #[.agg #[.slice A ws.length c], cv, .int .i64 id, .agg #[.int .i64 lo, .int .i64 hi, u0, u1, u2, u3, u4, u5, u6, u7]] w fun e w' => e = .returned (.bool true) ∧ Below w.heap.size w w' := by
 obtain ⟨A1, c1, A2, c2, rfl⟩ := hs.form
 have H := Lib.hid h
 have HS := Lib.hid hs
 have HU := Lib.hid hx
 have HV := Lib.hid hy
 have HI := Lib.hid hid
 have S := Lib.hid (WCS.new w (.slice A ws.length c) (.slice A1 s.river.length c1) (.slice A2 s.boards.length c2) lo hi u0 u1 u2 u3 u4 u5 u6 u7)
 clear h hs hx hy hid
 go_enter Try.func13, Try.ntmps13
 have xx0 := S.out.v0
 go_wp2_with fail
 refine (few_any A ws.length c ws _ (H.out.up S.out.bel.size S.out.bel)).mono ?_
 rintro e wc1 ⟨b, rfl, hfew, bb⟩
 replace S := Lib.hid (S.out.below bb)
 clear bb xx0
 cases b
 ·clear hfew
  go_wp2_with fail
  refine (sanity_any _).mono ?_
  rintro e wz ⟨rfl, bz⟩
  have SZ := Lib.hid (S.out.below bz)
  clear bz
  go_wp2_with fail
  go_ret
  exact ⟨rfl, SZ.out.bel⟩
 have HT : Hid (total ws ≤ 90 ∧ ws.length ≤ 30) := Lib.hid (by have := hfew (by trivial); have h1 := this.1; have h2 := this.2.1; omega)
 clear hfew
 have xx0 := S.out.a0
 have xx1 := S.out.a1
 go_wp2_with fail
 refine (casedL_any _ s _ (HS.out.up S.out.bel.size S.out.bel)).mono ?_
 rintro e wc2 ⟨b, rfl, -, bb⟩
 replace S := Lib.hid (S.out.below bb)
 clear bb xx0 xx1
 cases b
 ·skip
  go_wp2_with fail
  refine (sanity_any _).mono ?_
  rintro e wz ⟨rfl, bz⟩
  have SZ := Lib.hid (S.out.below bz)
  clear bz
  go_wp2_with fail
  go_ret
  exact ⟨rfl, SZ.out.bel⟩
 have xx0 := S.out.s2
 have xx1 := S.out.s3
 have xx2 := S.out.s4
 have xx3 := S.out.s5
 go_wp2_with fail
 refine (wet_any _ x _ (HU.out.up S.out.bel.size S.out.bel)).mono ?_
 rintro e wc3 ⟨b, rfl, -, bb⟩
 replace S := Lib.hid (S.out.below bb)
 clear bb xx0 xx1 xx2 xx3
 cases b
 ·skip
  go_wp2_with fail
  refine (sanity_any _).mono ?_
  rintro e wz ⟨rfl, bz⟩
  have SZ := Lib.hid (S.out.below bz)
  clear bz
  go_wp2_with fail
  go_ret
  exact ⟨rfl, SZ.out.bel⟩
 have xx0 := S.out.s6
 have xx1 := S.out.s7
 have xx2 := S.out.s8
 have xx3 := S.out.s9
 go_wp2_with fail
 refine (wet_any _ y _ (HV.out.up S.out.bel.size S.out.bel)).mono ?_
 rintro e wc4 ⟨b, rfl, -, bb⟩
 replace S := Lib.hid (S.out.below bb)
 clear bb xx0 xx1 xx2 xx3
 cases b
 ·skip
  go_wp2_with fail
  refine (sanity_any _).mono ?_
  rintro e wz ⟨rfl, bz⟩
  have SZ := Lib.hid (S.out.below bz)
  clear bz
  go_wp2_with fail
  go_ret
  exact ⟨rfl, SZ.out.bel⟩
 obtain ⟨i, d, hd⟩ := CasAt.exists_ ws s id
 obtain ⟨r, hr⟩ := CasIs.exists_ ws s
 obtain ⟨j, d0, q, hq⟩ := CkE.exists_ ws s id lo hi x y
 have HD := Lib.hid hd
 have HR := Lib.hid hr
 have HQ := Lib.hid hq
 obtain ⟨X, hX⟩ : ∃ X, okWa d (exW ws s (endE ws id) 1) = X := ⟨_, rfl⟩
 obtain ⟨Y, hY⟩ : ∃ X, okWa d (exW ws s (endE ws id) (-1)) = X := ⟨_, rfl⟩
 obtain ⟨l1, hl1⟩ : ∃ l, okN d (flE ws s id i.toNat 1) = l := ⟨_, rfl⟩
 obtain ⟨l2, hl2⟩ : ∃ l, okN d (flE ws s id i.toNat (-1)) = l := ⟨_, rfl⟩
 obtain ⟨Z, hZ⟩ : ∃ Z, okS r ((allP ws).map (spF ws s)) = Z := ⟨_, rfl⟩
 have HZL : Hid (Z.length ≤ 1000000) := Lib.hid (by
  rw [← hZ]; unfold okS; split
  ·rw [List.length_map, allP_len]; have := HT.out; omega
  ·simp)
 have HT1 : Hid (total ws ≤ 100000) := Lib.hid (by have := HT.out; omega)
 have EA_ : Hid (∀ W, Below w.heap.size w W → Calls Try.prog 25 #[.agg #[.slice A ws.length c], .agg #[.slice A1 s.river.length c1, .slice A2 s.boards.length c2], .int .i64 id] W fun e w' => ∃ P1 k1 P2 k2 P3 k3 P4 k4 Q1 m1 Q2 m2 Q3 m3 Q4 m4, e = .returned (.tuple #[.agg #[.int .i64 l1, .int .i64 l2, .slice P1 X.river.length k1, .slice P2 X.boards.length k2, .slice P3 X.leaks.length k3, .slice P4 X.losses.length k4, .slice Q1 Y.river.length m1, .slice Q2 Y.boards.length m2, .slice Q3 Y.leaks.length m3, .slice Q4 Y.losses.length m4], .int .i64 d]) ∧ OW W.heap.size (.agg #[.slice P1 X.river.length k1, .slice P2 X.boards.length k2, .slice P3 X.leaks.length k3, .slice P4 X.losses.length k4]) X w' ∧ OW W.heap.size (.agg #[.slice Q1 Y.river.length m1, .slice Q2 Y.boards.length m2, .slice Q3 Y.leaks.length m3, .slice Q4 Y.losses.length m4]) Y w' ∧ Below W.heap.size W w') := Lib.hid fun W hb => by
  refine (Ends_any _ _ ws s id i d W (H.out.up hb.size hb) HT1.out (HS.out.up hb.size hb) hd HI.out).mono ?_
  rintro e w' ⟨v, rfl, ⟨a1, a2, a3, a4, b1, b2, b3, b4, rfl, o1, o2⟩, bb⟩
  rw [hX] at o1
  rw [hY] at o2
  obtain ⟨P1, k1, P2, k2, P3, k3, P4, k4, rfl, rfl, rfl, rfl⟩ := o1.slices
  obtain ⟨Q1, m1, Q2, m2, Q3, m3, Q4, m4, rfl, rfl, rfl, rfl⟩ := o2.slices
  exact ⟨P1, k1, P2, k2, P3, k3, P4, k4, Q1, m1, Q2, m2, Q3, m3, Q4, m4, by rw [hl1, hl2], o1, o2, bb⟩
 have EB_ : Hid (∀ W, Below w.heap.size w W → Calls Try.prog 64 #[.agg #[.slice A ws.length c], .agg #[.slice A1 s.river.length c1, .slice A2 s.boards.length c2], .int .i64 id] W fun e w' => ∃ P1 k1 P2 k2 P3 k3 P4 k4 Q1 m1 Q2 m2 Q3 m3 Q4 m4, e = .returned (.agg #[.int .i64 l1, .int .i64 l2, .slice P1 X.river.length k1, .slice P2 X.boards.length k2, .slice P3 X.leaks.length k3, .slice P4 X.losses.length k4, .slice Q1 Y.river.length m1, .slice Q2 Y.boards.length m2, .slice Q3 Y.leaks.length m3, .slice Q4 Y.losses.length m4, .int .i64 d]) ∧ OW W.heap.size (.agg #[.slice P1 X.river.length k1, .slice P2 X.boards.length k2, .slice P3 X.leaks.length k3, .slice P4 X.losses.length k4]) X w' ∧ OW W.heap.size (.agg #[.slice Q1 Y.river.length m1, .slice Q2 Y.boards.length m2, .slice Q3 Y.leaks.length m3, .slice Q4 Y.losses.length m4]) Y w' ∧ Below W.heap.size W w') := Lib.hid fun W hb => by
  refine (rEnds_any _ _ ws s id i d W (H.out.up hb.size hb) HT1.out (HS.out.up hb.size hb) hd).mono ?_
  rintro e w' ⟨y0, y1, y2, y3, y4, y5, y6, y7, y8, y9, rfl, ⟨a1, a2, a3, a4, b1, b2, b3, b4, he, o1, o2⟩, bb⟩
  simp only [Value.agg.injEq, Array.mk.injEq, List.cons.injEq, and_true] at he
  obtain ⟨rfl, rfl, rfl, rfl, rfl, rfl, rfl, rfl, rfl, rfl⟩ := he
  rw [hX] at o1
  rw [hY] at o2
  obtain ⟨P1, k1, P2, k2, P3, k3, P4, k4, rfl, rfl, rfl, rfl⟩ := o1.slices
  obtain ⟨Q1, m1, Q2, m2, Q3, m3, Q4, m4, rfl, rfl, rfl, rfl⟩ := o2.slices
  exact ⟨P1, k1, P2, k2, P3, k3, P4, k4, Q1, m1, Q2, m2, Q3, m3, Q4, m4, by rw [hl1, hl2], o1, o2, bb⟩
 have EC_ : Hid (∀ W, Below w.heap.size w W → Calls Try.prog 27 #[.agg #[.slice A ws.length c], .agg #[.slice A1 s.river.length c1, .slice A2 s.boards.length c2]] W fun e w' => ∃ P k, e = .returned (.tuple #[.slice P Z.length k, .int .i64 r]) ∧ OwnG enc2 2 40 W.heap.size (.slice P Z.length k) Z w' ∧ Below W.heap.size W w') := Lib.hid fun W hb => by
  refine (Spans_any _ _ ws s r W (H.out.up hb.size hb) HT1.out (HS.out.up hb.size hb) hr).mono ?_
  rintro e w' ⟨v, rfl, o1, bb⟩
  rw [hZ] at o1
  obtain ⟨P, k, rfl, -⟩ := o1.form
  exact ⟨P, k, rfl, o1, bb⟩
 have ED_ : Hid (∀ W, Below w.heap.size w W → Calls Try.prog 65 #[.agg #[.slice A ws.length c], .agg #[.slice A1 s.river.length c1, .slice A2 s.boards.length c2]] W fun e w' => ∃ P k, e = .returned (.agg #[.slice P Z.length k, .int .i64 r]) ∧ OwnG enc2 2 40 W.heap.size (.slice P Z.length k) Z w' ∧ Below W.heap.size W w') := Lib.hid fun W hb => by
  refine (rSpans_any _ _ ws s r W (H.out.up hb.size hb) HT1.out (HS.out.up hb.size hb) hr).mono ?_
  rintro e w' ⟨v, rfl, o1, bb⟩
  rw [hZ] at o1
  obtain ⟨P, k, rfl, -⟩ := o1.form
  exact ⟨P, k, rfl, o1, bb⟩
 clear hd hr hq hX hY hl1 hl2 hZ
 have xx0 := S.out.v0
 have xx1 := S.out.a0
 have xx2 := S.out.a1
 go_wp2_with fail
 refine (EA_.out _ S.out.bel).mono ?_
 rintro e wc5 ⟨P1, k1, P2, k2, P3, k3, P4, k4, Q1, m1, Q2, m2, Q3, m3, Q4, m4, rfl, ox, oy, bb⟩
 replace S := Lib.hid (S.out.below bb)
 have OX := Lib.hid ox
 have OY := Lib.hid oy
 clear bb xx0 xx1 xx2 ox oy
 obtain ⟨wc6, hwc6⟩ : ∃ W, wc5.alloc (.cells #[.int .i64 l1, .int .i64 l2, .slice P1 X.river.length k1, .slice P2 X.boards.length k2, .slice P3 X.leaks.length k3, .slice P4 X.losses.length k4, .slice Q1 Y.river.length m1, .slice Q2 Y.boards.length m2, .slice Q3 Y.leaks.length m3, .slice Q4 Y.losses.length m4] 50) = W := ⟨_, rfl⟩
 have bb : Below wc5.heap.size wc5 wc6 := by rw [← hwc6]; exact (Below.refl _ _).alloc (Nat.le_refl _) _
 replace S := Lib.hid (S.out.below bb)
 replace OX := Lib.hid (OX.out.below bb)
 replace OY := Lib.hid (OY.out.below bb)
 have BA : Hid (BlkN wc5.heap.size [.int .i64 l1, .int .i64 l2, .slice P1 X.river.length k1, .slice P2 X.boards.length k2, .slice P3 X.leaks.length k3, .slice P4 X.losses.length k4, .slice Q1 Y.river.length m1, .slice Q2 Y.boards.length m2, .slice Q3 Y.leaks.length m3, .slice Q4 Y.losses.length m4] wc6) := Lib.hid (by rw [← hwc6]; exact BlkN.new _ _ _)
 have Hwc6 := Lib.hid hwc6
 clear bb hwc6
 have xx0 := S.out.v0
 have xx1 := S.out.a0
 have xx2 := S.out.a1
 go_upto_region 4 with fail
 rw [Hwc6.out]
 go_wp2_with fail
 refine (EB_.out _ S.out.bel).mono ?_
 rintro e wc7 ⟨M1, e1, M2, e2, M3, e3, M4, e4, N1, f1, N2, f2, N3, f3, N4, f4, rfl, ox, oy, bb⟩
 replace S := Lib.hid (S.out.below bb)
 replace OX := Lib.hid (OX.out.below bb)
 replace OY := Lib.hid (OY.out.below bb)
 replace BA := Lib.hid (BA.out.below bb)
 have RX := Lib.hid ox
 have RY := Lib.hid oy
 clear bb ox oy xx0 xx1 xx2
 obtain ⟨wc8, hwc8⟩ : ∃ W, wc7.alloc (.cells #[.int .i64 l1, .int .i64 l2, .slice M1 X.river.length e1, .slice M2 X.boards.length e2, .slice M3 X.leaks.length e3, .slice M4 X.losses.length e4, .slice N1 Y.river.length f1, .slice N2 Y.boards.length f2, .slice N3 Y.leaks.length f3, .slice N4 Y.losses.length f4, .int .i64 d] 99) = W := ⟨_, rfl⟩
 have bb : Below wc7.heap.size wc7 wc8 := by rw [← hwc8]; exact (Below.refl _ _).alloc (Nat.le_refl _) _
 replace S := Lib.hid (S.out.below bb)
 replace OX := Lib.hid (OX.out.below bb)
 replace OY := Lib.hid (OY.out.below bb)
 replace BA := Lib.hid (BA.out.below bb)
 replace RX := Lib.hid (RX.out.below bb)
 replace RY := Lib.hid (RY.out.below bb)
 have BB : Hid (BlkN wc7.heap.size [.int .i64 l1, .int .i64 l2, .slice M1 X.river.length e1, .slice M2 X.boards.length e2, .slice M3 X.leaks.length e3, .slice M4 X.losses.length e4, .slice N1 Y.river.length f1, .slice N2 Y.boards.length f2, .slice N3 Y.leaks.length f3, .slice N4 Y.losses.length f4, .int .i64 d] wc8) := Lib.hid (by rw [← hwc8]; exact BlkN.new _ _ _)
 have Hwc8 := Lib.hid hwc8
 clear bb hwc8
 have xx0 := S.out.v0
 have xx1 := S.out.a0
 have xx2 := S.out.a1
 go_upto_region 5 with fail
 rw [Hwc8.out]
 go_wp2_with fail
 refine (EC_.out _ S.out.bel).mono ?_
 rintro e wc9 ⟨PS, kS, rfl, ox, bb⟩
 replace S := Lib.hid (S.out.below bb)
 replace OX := Lib.hid (OX.out.below bb)
 replace OY := Lib.hid (OY.out.below bb)
 replace BA := Lib.hid (BA.out.below bb)
 replace RX := Lib.hid (RX.out.below bb)
 replace RY := Lib.hid (RY.out.below bb)
 replace BB := Lib.hid (BB.out.below bb)
 have OZ := Lib.hid ox
 clear bb ox xx0 xx1 xx2
 have xx0 := S.out.v0
 have xx1 := S.out.a0
 have xx2 := S.out.a1
 go_wp2_with fail
 refine (ED_.out _ S.out.bel).mono ?_
 rintro e wc10 ⟨PR, kR, rfl, ox, bb⟩
 replace S := Lib.hid (S.out.below bb)
 replace OX := Lib.hid (OX.out.below bb)
 replace OY := Lib.hid (OY.out.below bb)
 replace BA := Lib.hid (BA.out.below bb)
 replace RX := Lib.hid (RX.out.below bb)
 replace RY := Lib.hid (RY.out.below bb)
 replace BB := Lib.hid (BB.out.below bb)
 replace OZ := Lib.hid (OZ.out.below bb)
 have RZ := Lib.hid ox
 clear bb xx0 xx1 xx2 ox
 obtain ⟨wc11, hwc11⟩ : ∃ W, wc10.alloc (.cells #[.slice PR Z.length kR, .int .i64 r] 102) = W := ⟨_, rfl⟩
 have bb : Below wc10.heap.size wc10 wc11 := by rw [← hwc11]; exact (Below.refl _ _).alloc (Nat.le_refl _) _
 replace S := Lib.hid (S.out.below bb)
 replace OX := Lib.hid (OX.out.below bb)
 replace OY := Lib.hid (OY.out.below bb)
 replace BA := Lib.hid (BA.out.below bb)
 replace RX := Lib.hid (RX.out.below bb)
 replace RY := Lib.hid (RY.out.below bb)
 replace BB := Lib.hid (BB.out.below bb)
 replace OZ := Lib.hid (OZ.out.below bb)
 replace RZ := Lib.hid (RZ.out.below bb)
 have BC : Hid (BlkN wc10.heap.size [.slice PR Z.length kR, .int .i64 r] wc11) := Lib.hid (by rw [← hwc11]; exact BlkN.new _ _ _)
 have Hwc11 := Lib.hid hwc11
 clear bb hwc11
 go_upto_region 7 with fail
 rw [Hwc11.out]
 have ba0 := BA.out.c 0 _ rfl
 have ba1 := BA.out.c 1 _ rfl
 have ba2 := BA.out.c 2 _ rfl
 have ba3 := BA.out.c 3 _ rfl
 have ba4 := BA.out.c 4 _ rfl
 have ba5 := BA.out.c 5 _ rfl
 have ba6 := BA.out.c 6 _ rfl
 have ba7 := BA.out.c 7 _ rfl
 have ba8 := BA.out.c 8 _ rfl
 have ba9 := BA.out.c 9 _ rfl
 have bb0 := BB.out.c 0 _ rfl
 have bb1 := BB.out.c 1 _ rfl
 have bb2 := BB.out.c 2 _ rfl
 have bb3 := BB.out.c 3 _ rfl
 have bb4 := BB.out.c 4 _ rfl
 have bb5 := BB.out.c 5 _ rfl
 have bb6 := BB.out.c 6 _ rfl
 have bb7 := BB.out.c 7 _ rfl
 have bb8 := BB.out.c 8 _ rfl
 have bb9 := BB.out.c 9 _ rfl
 have bb10 := BB.out.c 10 _ rfl
 go_wp2_with fail
 refine (sameWater_any _ _ _ _ _ _ _ _ _ _ _ _ _ OX.out.rwa.parts.1 OX.out.rwa.parts.2.1 OX.out.rwa.parts.2.2.1 OX.out.rwa.parts.2.2.2 RX.out.rwa.parts.1 RX.out.rwa.parts.2.1 RX.out.rwa.parts.2.2.1 RX.out.rwa.parts.2.2.2 (by have := OX.out.bs; omega) (by have := OX.out.bs; omega) (by have := OX.out.bs; omega) (by have := OX.out.bs; omega)).mono ?_
 rintro e wc12 ⟨rfl, bb⟩
 replace S := Lib.hid (S.out.below bb)
 replace OX := Lib.hid (OX.out.below bb)
 replace OY := Lib.hid (OY.out.below bb)
 replace BA := Lib.hid (BA.out.below bb)
 replace RX := Lib.hid (RX.out.below bb)
 replace RY := Lib.hid (RY.out.below bb)
 replace BB := Lib.hid (BB.out.below bb)
 replace OZ := Lib.hid (OZ.out.below bb)
 replace RZ := Lib.hid (RZ.out.below bb)
 replace BC := Lib.hid (BC.out.below bb)
 clear bb ba0 ba1 ba2 ba3 ba4 ba5 ba6 ba7 ba8 ba9 bb0 bb1 bb2 bb3 bb4 bb5 bb6 bb7 bb8 bb9 bb10
 have ba0 := BA.out.c 0 _ rfl
 have ba1 := BA.out.c 1 _ rfl
 have ba2 := BA.out.c 2 _ rfl
 have ba3 := BA.out.c 3 _ rfl
 have ba4 := BA.out.c 4 _ rfl
 have ba5 := BA.out.c 5 _ rfl
 have ba6 := BA.out.c 6 _ rfl
 have ba7 := BA.out.c 7 _ rfl
 have ba8 := BA.out.c 8 _ rfl
 have ba9 := BA.out.c 9 _ rfl
 have bb0 := BB.out.c 0 _ rfl
 have bb1 := BB.out.c 1 _ rfl
 have bb2 := BB.out.c 2 _ rfl
 have bb3 := BB.out.c 3 _ rfl
 have bb4 := BB.out.c 4 _ rfl
 have bb5 := BB.out.c 5 _ rfl
 have bb6 := BB.out.c 6 _ rfl
 have bb7 := BB.out.c 7 _ rfl
 have bb8 := BB.out.c 8 _ rfl
 have bb9 := BB.out.c 9 _ rfl
 have bb10 := BB.out.c 10 _ rfl
 go_wp2_with fail
 refine (sameWater_any _ _ _ _ _ _ _ _ _ _ _ _ _ OY.out.rwa.parts.1 OY.out.rwa.parts.2.1 OY.out.rwa.parts.2.2.1 OY.out.rwa.parts.2.2.2 RY.out.rwa.parts.1 RY.out.rwa.parts.2.1 RY.out.rwa.parts.2.2.1 RY.out.rwa.parts.2.2.2 (by have := OY.out.bs; omega) (by have := OY.out.bs; omega) (by have := OY.out.bs; omega) (by have := OY.out.bs; omega)).mono ?_
 rintro e wc13 ⟨rfl, bb⟩
 replace S := Lib.hid (S.out.below bb)
 replace OX := Lib.hid (OX.out.below bb)
 replace OY := Lib.hid (OY.out.below bb)
 replace BA := Lib.hid (BA.out.below bb)
 replace RX := Lib.hid (RX.out.below bb)
 replace RY := Lib.hid (RY.out.below bb)
 replace BB := Lib.hid (BB.out.below bb)
 replace OZ := Lib.hid (OZ.out.below bb)
 replace RZ := Lib.hid (RZ.out.below bb)
 replace BC := Lib.hid (BC.out.below bb)
 clear bb ba0 ba1 ba2 ba3 ba4 ba5 ba6 ba7 ba8 ba9 bb0 bb1 bb2 bb3 bb4 bb5 bb6 bb7 bb8 bb9 bb10
 have ba0 := BA.out.c 0 _ rfl
 have ba1 := BA.out.c 1 _ rfl
 have ba2 := BA.out.c 2 _ rfl
 have ba3 := BA.out.c 3 _ rfl
 have ba4 := BA.out.c 4 _ rfl
 have ba5 := BA.out.c 5 _ rfl
 have ba6 := BA.out.c 6 _ rfl
 have ba7 := BA.out.c 7 _ rfl
 have ba8 := BA.out.c 8 _ rfl
 have ba9 := BA.out.c 9 _ rfl
 have bb0 := BB.out.c 0 _ rfl
 have bb1 := BB.out.c 1 _ rfl
 have bb2 := BB.out.c 2 _ rfl
 have bb3 := BB.out.c 3 _ rfl
 have bb4 := BB.out.c 4 _ rfl
 have bb5 := BB.out.c 5 _ rfl
 have bb6 := BB.out.c 6 _ rfl
 have bb7 := BB.out.c 7 _ rfl
 have bb8 := BB.out.c 8 _ rfl
 have bb9 := BB.out.c 9 _ rfl
 have bb10 := BB.out.c 10 _ rfl
 go_upto_region 8 with fail
 clear ba0 ba1 ba2 ba3 ba4 ba5 ba6 ba7 ba8 ba9 bb0 bb1 bb2 bb3 bb4 bb5 bb6 bb7 bb8 bb9 bb10
 have x0 := S.out.v0
 have x1 := S.out.a0
 have x2 := S.out.a1
 have x3 := S.out.s0
 have x4 := S.out.s1
 have x5 := S.out.s2
 have x6 := S.out.s3
 have x7 := S.out.s4
 have x8 := S.out.s5
 have x9 := S.out.s6
 have x10 := S.out.s7
 have x11 := S.out.s8
 have x12 := S.out.s9
 have x20 := BC.out.c 0 _ rfl
 have x21 := BC.out.c 1 _ rfl
 refine wp_region_held_drew (S := BelS wc13) (by kernel_rfl) (BelS.drew0 _) (fun J0 => ?_)
 refine wpAnyH_ready (rs := [0]) (by kernel_rfl) (by simp) ?_
 refine AllReadyH.cons rfl (fun K hK => ?_) AllReadyH.nil
 go_simp
 refine (sanity_any _).mono ?_
 rintro e wq1 ⟨rfl, hq1⟩
 have J1 := J0.below hq1
 clear hq1
 refine hK.out _ _ J1 (fun _ => ?_)
 clear hK K
 try simp only [aS]
 have KK1 := Lib.hid fun (w_ : World) (hSw : BelS _ w_) => And.intro (hSw.c x0) (And.intro (hSw.c x1) (And.intro (hSw.c x2) (And.intro (hSw.c x3) (And.intro (hSw.c x4) (And.intro (hSw.c x5) (And.intro (hSw.c x6) (And.intro (hSw.c x7) (And.intro (hSw.c x8) (And.intro (hSw.c x9) (And.intro (hSw.c x10) (And.intro (hSw.c x11) (And.intro (hSw.c x12) (And.intro (hSw.c x20) (hSw.c x21))))))))))))))
 refine tk KK1 1 86 J1 ?_
 try simp only [aS]
 refine tk KK1 2 87 J1 ?_
 try simp only [aS]
 refine tk KK1 3 88 J1 ?_
 try simp only [aS]
 refine tk KK1 4 89 J1 ?_
 try simp only [aS]
 refine tk KK1 5 90 J1 ?_
 try simp only [aS]
 refine tk KK1 6 91 J1 ?_
 try simp only [aS]
 refine tk KK1 7 92 J1 ?_
 try simp only [aS]
 refine wpAnyH_ready (rs := [8]) (by kernel_rfl) (by simp) ?_
 refine AllReadyH.cons rfl (fun K hK => ?_) AllReadyH.nil
 go_simp
 refine (sameSpans_any _ _ Z _ ((OZ.out.below (BelS.b J1)).rr E2 (by have := HZL.out; show Z.length ≤ 1000000000000000; omega)) ((RZ.out.below (BelS.b J1)).rr E2 (by have := HZL.out; show Z.length ≤ 1000000000000000; omega)) HZL.out).mono ?_
 rintro e wq2 ⟨rfl, hq2⟩
 have J2 := J1.below hq2
 clear hq2
 refine hK.out _ _ J2 (fun _ => ?_)
 clear hK K
 try simp only [aS]
 refine tk KK1 9 94 J2 ?_
 try simp only [aS]
 refine tk KK1 10 95 J2 ?_
 try simp only [aS]
 refine tk KK1 11 96 J2 ?_
 try simp only [aS]
 refine tk KK1 12 97 J2 ?_
 try simp only [aS]
 refine tk KK1 13 98 J2 ?_
 try simp only [aS]
 refine tk KK1 14 99 J2 ?_
 try simp only [aS]
 refine tk KK1 15 100 J2 ?_
 try simp only [aS]
 refine tk KK1 16 101 J2 ?_
 try simp only [aS]
 refine tk KK1 17 102 J2 ?_
 try simp only [aS]
 refine tk KK1 18 103 J2 ?_
 try simp only [aS]
 refine tk KK1 19 104 J2 ?_
 try simp only [aS]
 refine tk KK1 20 105 J2 ?_
 try simp only [aS]
 refine tk KK1 22 107 J2 ?_
 try simp only [aS]
 refine tk KK1 23 108 J2 ?_
 try simp only [aS]
 refine tk KK1 24 109 J2 ?_
 try simp only [aS]
 refine tk KK1 25 110 J2 ?_
 try simp only [aS]
 refine wpAnyH_ready (rs := [21]) (by kernel_rfl) (by simp) ?_
 refine AllReadyH.cons rfl (fun K hK => ?_) AllReadyH.nil
 go_simp
 refine (CheckEnds_any _ _ u0 u1 u2 u3 u4 u5 u6 u7 ws s x y id j d0 lo hi q _ (H.out.up (S.out.bel.trans ((BelS.b J2).mono S.out.bel.size)).size (S.out.bel.trans ((BelS.b J2).mono S.out.bel.size))) HT1.out (HS.out.up (S.out.bel.trans ((BelS.b J2).mono S.out.bel.size)).size (S.out.bel.trans ((BelS.b J2).mono S.out.bel.size))) (HU.out.up (S.out.bel.trans ((BelS.b J2).mono S.out.bel.size)).size (S.out.bel.trans ((BelS.b J2).mono S.out.bel.size))) (HV.out.up (S.out.bel.trans ((BelS.b J2).mono S.out.bel.size)).size (S.out.bel.trans ((BelS.b J2).mono S.out.bel.size))) HI.out HQ.out).mono ?_
 rintro e wq3 ⟨rfl, hq3⟩
 have J3 := J2.below hq3
 clear hq3
 refine hK.out _ _ J3 (fun _ => ?_)
 clear hK K
 try simp only [aS]
 refine wpAnyH_ready (rs := [26]) (by kernel_rfl) (by simp) ?_
 refine AllReadyH.cons rfl (fun K hK => ?_) AllReadyH.nil
 go_simp
 refine (rCheckEnds_any _ _ u0 u1 u2 u3 u4 u5 u6 u7 ws s x y id j d0 lo hi q _ (H.out.up (S.out.bel.trans ((BelS.b J3).mono S.out.bel.size)).size (S.out.bel.trans ((BelS.b J3).mono S.out.bel.size))) HT1.out (HS.out.up (S.out.bel.trans ((BelS.b J3).mono S.out.bel.size)).size (S.out.bel.trans ((BelS.b J3).mono S.out.bel.size))) (HU.out.up (S.out.bel.trans ((BelS.b J3).mono S.out.bel.size)).size (S.out.bel.trans ((BelS.b J3).mono S.out.bel.size))) (HV.out.up (S.out.bel.trans ((BelS.b J3).mono S.out.bel.size)).size (S.out.bel.trans ((BelS.b J3).mono S.out.bel.size))) HQ.out).mono ?_
 rintro e wq4 ⟨rfl, hq4⟩
 have J4 := J3.below hq4
 clear hq4
 refine hK.out _ _ J4 (fun _ => ?_)
 clear hK K
 try simp only [aS]
 refine tk KK1 27 112 J4 ?_
 try simp only [aS]
 refine tk KK1 28 113 J4 ?_
 try simp only [aS]
 refine tk KK1 29 8 J4 ?_
 try simp only [aS]
 refine wpAnyH_done (by kernel_rfl) ?_ _
 have BE := Lib.hid (S.out.bel.trans ((BelS.b J4).mono S.out.bel.size))
 clear x0 x1 x2 x3 x4 x5 x6 x7 x8 x9 x10 x11 x12 x20 x21
 go_wp2_with fail
 go_ret
 exact ⟨rfl, BE.out⟩
end Go.Proofs.Ytkoacclbempmdaa

/- A course in memory, and the law's runs. -/
namespace Go.Proofs.Ytkoacclbempmdaa
open Go.RowKit

/-- A run: its minutes, its water. -/
structure Rn where
 mn : Int
 wa : Wa
/-- The cells of a run. -/
def RnAt (B b o : Nat) (r : Rn) (w : World) : Prop :=
 w.cell? ⟨b, o, none⟩ = some (.int .i64 r.mn) ∧ ∃ u0 u1 u2 u3, w.cell? ⟨b, o + 1, none⟩ = some u0 ∧ w.cell? ⟨b, o + 1 + 1, none⟩ = some u1 ∧ w.cell? ⟨b, o + 1 + 2, none⟩ = some u2 ∧ w.cell? ⟨b, o + 1 + 3, none⟩ = some u3 ∧ RWa B (.agg #[u0, u1, u2, u3]) r.wa w
/-- A slice of runs. -/
def RN (B : Nat) (v : Value) (l : List Rn) (w : World) : Prop :=
 ∃ A c, v = .slice A l.length c ∧ Fits l.length ∧ (0 < l.length → ∃ b o, A = some ⟨b, o, none⟩ ∧ b < B ∧ ∀ k x, l[k]? = some x → RnAt B b (o + k * 5) x w)
theorem RN.up {B B' : Nat} {v : Value} {l : List Rn} {w w' : World} (h : RN B v l w) (hB : B ≤ B') (hb : Below B w w') : RN B' v l w' := by
 obtain ⟨A, c, e, hl, hc⟩ := h
 refine ⟨A, c, e, hl, fun hp => ?_⟩
 obtain ⟨b, o, e2, hlt, k⟩ := hc hp
 refine ⟨b, o, e2, Nat.lt_of_lt_of_le hlt hB, fun i x hi => ?_⟩
 obtain ⟨h0, u0, u1, u2, u3, h1, h2, h3, h4, h5⟩ := k i x hi
 exact ⟨(hb.cell (p := ⟨b, o + i * 5, none⟩) hlt).trans h0, u0, u1, u2, u3, (hb.cell (p := ⟨b, o + i * 5 + 1, none⟩) hlt).trans h1, (hb.cell (p := ⟨b, o + i * 5 + 1 + 1, none⟩) hlt).trans h2, (hb.cell (p := ⟨b, o + i * 5 + 1 + 2, none⟩) hlt).trans h3, (hb.cell (p := ⟨b, o + i * 5 + 1 + 3, none⟩) hlt).trans h4, h5.up hB hb⟩
theorem RN.form {B : Nat} {v : Value} {l : List Rn} {w : World} (h : RN B v l w) : ∃ A c, v = .slice A l.length c := by obtain ⟨A, c, e, _⟩ := h; exact ⟨A, c, e⟩
theorem RN.fits {B : Nat} {v : Value} {l : List Rn} {w : World} (h : RN B v l w) : Fits l.length := by obtain ⟨_, _, _, hl, _⟩ := h; exact hl
theorem rn_at {B n c j : Nat} {A : Option Addr} {l : List Rn} {r : Rn} {w : World} (h : RN B (.slice A n c) l w) (hp : l[j]? = some r) : ∃ b o, A = some ⟨b, o, none⟩ ∧ b < B ∧ w.cell? ⟨b, o + j * 5, none⟩ = some (.int .i64 r.mn) ∧ ∃ A1 c1 A2 c2 A3 c3 A4 c4, w.cell? ⟨b, o + j * 5 + 1, none⟩ = some (.slice A1 r.wa.river.length c1) ∧ w.cell? ⟨b, o + j * 5 + 1 + 1, none⟩ = some (.slice A2 r.wa.boards.length c2) ∧ w.cell? ⟨b, o + j * 5 + 1 + 2, none⟩ = some (.slice A3 r.wa.leaks.length c3) ∧ w.cell? ⟨b, o + j * 5 + 1 + 3, none⟩ = some (.slice A4 r.wa.losses.length c4) ∧ RWa B (.agg #[.slice A1 r.wa.river.length c1, .slice A2 r.wa.boards.length c2, .slice A3 r.wa.leaks.length c3, .slice A4 r.wa.losses.length c4]) r.wa w := by
 obtain ⟨A0, c0, e0, -, hx⟩ := h
 have hj := (List.getElem?_eq_some_iff.1 hp).1
 simp only [Value.slice.injEq] at e0
 obtain ⟨rfl, -, -⟩ := e0
 obtain ⟨b, o, e1, e2, hh⟩ := hx (by omega)
 obtain ⟨h0, u0, u1, u2, u3, h1, h2, h3, h4, h5⟩ := hh j r hp
 obtain ⟨A1, c1, A2, c2, A3, c3, A4, c4, e⟩ := h5.form
 simp only [Value.agg.injEq, Array.mk.injEq, List.cons.injEq, and_true] at e
 obtain ⟨rfl, rfl, rfl, rfl⟩ := e
 exact ⟨b, o, e1, e2, h0, A1, c1, A2, c2, A3, c3, A4, c4, h1, h2, h3, h4, h5⟩

def RunsPost (l : List Rn) (w : World) (e : Ending) (w' : World) : Prop := ∃ b, e = .returned (.bool b) ∧ (b = true → l.length ≤ 80) ∧ Below w.heap.size w w'
set_option maxHeartbeats 8000000 in
set_option maxRecDepth 1000000 in
theorem runs_any (v : Value) (l : List Rn) (w : World) (h : RN w.heap.size v l w) : Calls Try.prog 40 #[v] w (RunsPost l w) := by
 obtain ⟨A, c, rfl⟩ := h.form
 have HF := Lib.hid h.fits
 have H := Lib.hid h
 have HB := Lib.hid (Below.refl w.heap.size w)
 have hfit : (l.length : Int) ≤ 1000000000000000 := by have := HF.out; omega
 clear h
 go_enter Try.func40, Try.ntmps40
 go_wp2_with fail
 go_loopw [3] (fun a wr => ∃ j : Nat, a = .int .i64 j ∧ j ≤ l.length ∧ Below w.heap.size w wr) (fun a _ => l.length - (intOf a).toNat)
 case atStart => exact ⟨0, rfl, by omega, HB.out⟩
 case round =>
  obtain ⟨j, rfl, hj, hb⟩ := hrel
  have S := Lib.hid hb
  clear hb
  by_cases hjl : j < l.length
  ·have hj0 : (j : Int) < (l.length : Int) := by omega
   obtain ⟨r, hr⟩ : ∃ r, l[j]? = some r := ⟨_, List.getElem?_eq_getElem hjl⟩
   obtain ⟨b, o, rfl, hlt, q0, A1, c1, A2, c2, A3, c3, A4, c4, q1, q2, q3, q4, q5⟩ := rn_at (H.out.up S.out.size S.out) hr
   have Q := Lib.hid q5
   clear q5 hr
   go_wp2_with fail
   refine (wet_any _ r.wa _ Q.out).mono ?_
   rintro e w1 ⟨x, rfl, -, b1⟩
   have S1 := Lib.hid (S.out.trans (b1.mono S.out.size))
   clear b1 Q q0 q1 q2 q3 q4
   cases x
   ·go_wp2_with fail
    go_ret
    exact ⟨false, rfl, (fun h => by cases h), S1.out⟩
   ·go_wp2_with fail
    go_roundw
    case rel => exact ⟨j + 1, by go_num, by omega, S1.out⟩
    case measure => show l.length - ((j : Int) + 1).toNat < l.length - (j : Int).toNat; omega
  ·have hj0 : (l.length : Int) ≤ (j : Int) := by omega
   have hs : (l.length : Int) ≤ 6 ∨ ((6 : Int) < (l.length : Int) ∧ (l.length : Int) ≤ 60) ∨ ((6 : Int) < (l.length : Int) ∧ (60 : Int) < (l.length : Int) ∧ (l.length : Int) ≤ 80) ∨ ((6 : Int) < (l.length : Int) ∧ (60 : Int) < (l.length : Int) ∧ (80 : Int) < (l.length : Int)) := by omega
   rcases hs with h1 | ⟨h1, h2⟩ | ⟨h1, h2, h3⟩ | ⟨h1, h2, h3⟩
   all_goals
    go_wp2_with fail
    go_ret
    first
     | exact ⟨false, rfl, (fun h => by cases h), S.out⟩
     | exact ⟨_, rfl, (fun h => by (try simp only [Bool.or_eq_true, decide_eq_true_eq] at h); omega), S.out⟩
     | exact ⟨true, rfl, (fun _ => by omega), S.out⟩
end Go.Proofs.Ytkoacclbempmdaa

/- How a course that came in is opened. -/
namespace Go.Proofs.Ytkoacclbempmdaa
open Go.ChangeShapes Go.WideShapes Go.ChangeAt Go.RowKit Go.Joins
instance : Inhabited Rn := ⟨⟨0, ⟨[], [], [], []⟩⟩⟩
theorem qcellsR : Try.prog.cellsOf 78 = 5 := by kernel_rfl
theorem pbR : 0 < Try.prog.bytesOf 78 := by decide +kernel
section
variable {H : Type} {enc : TypeId × Value → H} {W : World} {base : Nat} {sp : Nat → Bool}
set_option maxRecDepth 100000 in
set_option maxHeartbeats 1000000 in
/-- Water in its cells. -/
theorem wat_of {fuel : Nat} {u0 u1 u2 u3 : Value} {x : DataW H × List MemPlace} (h2 : DataW.trod enc Try.prog W base sp true fuel 27 [u0, u1, u2, u3] = some x) (hw : WB 27 x.1) : ∃ s : Wa, RWa W.heap.size (.agg #[u0, u1, u2, u3]) s W := by
 obtain ⟨xs, m, _, ex, _, hxl, hf⟩ := DataW.trod_struct Try.underlying27 h2
 obtain ⟨x0, e0⟩ : ∃ y, xs[0]? = some y := ⟨_, List.getElem?_eq_getElem (by rw [hxl]; decide)⟩
 obtain ⟨x1, e1⟩ : ∃ y, xs[1]? = some y := ⟨_, List.getElem?_eq_getElem (by rw [hxl]; decide)⟩
 obtain ⟨x2, e2⟩ : ∃ y, xs[2]? = some y := ⟨_, List.getElem?_eq_getElem (by rw [hxl]; decide)⟩
 obtain ⟨x3, e3⟩ : ∃ y, xs[3]? = some y := ⟨_, List.getElem?_eq_getElem (by rw [hxl]; decide)⟩
 have q0 : DataW.trod enc Try.prog W base sp true m 25 (([u0, u1, u2, u3].drop 0).take (Try.prog.cellsOf 25)) = xs[0]? := hf 0 _ rfl
 have q1 : DataW.trod enc Try.prog W base sp true m 25 (([u0, u1, u2, u3].drop 1).take (Try.prog.cellsOf 25)) = xs[1]? := hf 1 _ rfl
 have q2 : DataW.trod enc Try.prog W base sp true m 25 (([u0, u1, u2, u3].drop 2).take (Try.prog.cellsOf 25)) = xs[2]? := hf 2 _ rfl
 have q3 : DataW.trod enc Try.prog W base sp true m 25 (([u0, u1, u2, u3].drop 3).take (Try.prog.cellsOf 25)) = xs[3]? := hf 3 _ rfl
 rw [qcellsI, e0] at q0
 rw [qcellsI, e1] at q1
 rw [qcellsI, e2] at q2
 rw [qcellsI, e3] at q3
 rw [ex] at hw
 have hw' := hw.agg Try.underlying27
 obtain ⟨A0, c0, l0, rfl, r0⟩ := ints_open q0 (hw' 0 _ x0.1 rfl (by rw [List.getElem?_map, e0]; rfl))
 obtain ⟨A1, c1, l1, rfl, r1⟩ := ints_open q1 (hw' 1 _ x1.1 rfl (by rw [List.getElem?_map, e1]; rfl))
 obtain ⟨A2, c2, l2, rfl, r2⟩ := ints_open q2 (hw' 2 _ x2.1 rfl (by rw [List.getElem?_map, e2]; rfl))
 obtain ⟨A3, c3, l3, rfl, r3⟩ := ints_open q3 (hw' 3 _ x3.1 rfl (by rw [List.getElem?_map, e3]; rfl))
 exact ⟨⟨l0, l1, l2, l3⟩, _, _, _, _, rfl, r0.rr, r1.rr, r2.rr, r3.rr⟩
set_option maxRecDepth 100000 in
set_option maxHeartbeats 1000000 in
/-- Runs. -/
theorem runs_row {fuel : Nat} {v : Value} {y : DataW H × List MemPlace} (h : DataW.trod enc Try.prog W base sp true fuel 74 [v] = some y) (hw : WB 74 y.1) : ∃ l : List Rn, RN W.heap.size v l W := by
 obtain ⟨A, c, l, e, hf, hr⟩ := row_open (α := Rn) Try.underlying74 qcellsR (by decide) pbR (fun x b o => RnAt W.heap.size b o x W) (fun fuel a x hwx hx => by
  obtain ⟨cs, hl, hc, h2⟩ := cells_of hx
  obtain ⟨xs, m, _, ex, _, hxl, hf⟩ := DataW.trod_struct Try.underlying78 h2
  match cs, hl with
  | [u0, u1, u2, u3, u4], _ =>
   obtain ⟨x0, e0⟩ : ∃ y, xs[0]? = some y := ⟨_, List.getElem?_eq_getElem (by rw [hxl]; decide)⟩
   obtain ⟨x1, e1⟩ : ∃ y, xs[1]? = some y := ⟨_, List.getElem?_eq_getElem (by rw [hxl]; decide)⟩
   have q0 : DataW.trod enc Try.prog W base sp true m 3 (([u0, u1, u2, u3, u4].drop 0).take (Try.prog.cellsOf 3)) = xs[0]? := hf 0 _ rfl
   have q1 : DataW.trod enc Try.prog W base sp true m 27 (([u0, u1, u2, u3, u4].drop 1).take (Try.prog.cellsOf 27)) = xs[1]? := hf 1 _ rfl
   rw [qcells3, e0] at q0
   rw [qcellsA, e1] at q1
   obtain ⟨i0, p0, _⟩ := DataW.trod_int Try.underlying3 q0
   simp at p0
   subst p0
   have hw1 : WB 27 x1.1 := by
    rw [ex] at hwx
    exact hwx.agg Try.underlying78 1 _ x1.1 rfl (by rw [List.getElem?_map, e1]; rfl)
   obtain ⟨s, hs1⟩ := wat_of q1 hw1
   have h0 := hc 0 (by decide)
   rw [Addr.add_zero'] at h0
   refine ⟨⟨i0, s⟩, ⟨_, h0.trans rfl⟩, fun hs => ?_⟩
   have had := add_plain hs
   obtain ⟨b, o, z⟩ := a
   simp only at hs
   subst hs
   have hcell : ∀ k u, [Value.int .i64 i0, u1, u2, u3, u4][k]? = some u → k < 5 → W.cell? ⟨b, o + k, none⟩ = some u := fun k u hu hk => by
    have := hc k hk
    rw [had] at this
    exact this.trans hu
   exact ⟨h0.trans rfl, u1, u2, u3, u4, hcell 1 _ rfl (by decide), hcell 2 _ rfl (by decide), hcell 3 _ rfl (by decide), hcell 4 _ rfl (by decide), hs1⟩) h hw
 exact ⟨l, A, c, e, hf, hr⟩
set_option maxRecDepth 100000 in
/-- A course that came in. -/
theorem runs_open {b0 : Nat} {v : Value} {d : DataW H} {p : List MemPlace} (hv : Value.okWide Try.prog W .any b0 74 v) (h : DataW.Trod enc Try.prog W base sp true 74 v d p) (hw : WB 74 d) : ∃ l : List Rn, RN W.heap.size v l W := by
 obtain ⟨a, len, cap, rfl⟩ := okWide_slice Try.underlying74 hv
 obtain ⟨n, h⟩ := h
 exact runs_row (y := (d, p)) h hw
end
end Go.Proofs.Ytkoacclbempmdaa

/- How a supply that came in is opened. -/
namespace Go.Proofs.Ytkoacclbempmdaa
open Go.ChangeShapes Go.WideShapes Go.ChangeAt Go.RowKit Go.Joins
theorem qcellsU : Try.prog.cellsOf 50 = 10 := by kernel_rfl
section
variable {H : Type} {enc : TypeId × Value → H} {W : World} {base : Nat} {sp : Nat → Bool}
set_option maxRecDepth 100000 in
set_option maxHeartbeats 1000000 in
/-- A supply that came in: its flow, its least and its most water. -/
theorem supply_open {b0 : Nat} {v : Value} {d : DataW H} {p : List MemPlace} (hv : Value.okWide Try.prog W .any b0 50 v) (h : DataW.Trod enc Try.prog W base sp true 50 v d p) (hw : WB 50 d) : ∃ (lo hi : Int) (u0 u1 u2 u3 u4 u5 u6 u7 : Value) (x y : Wa), v = .agg #[.int .i64 lo, .int .i64 hi, u0, u1, u2, u3, u4, u5, u6, u7] ∧ RWa W.heap.size (.agg #[u0, u1, u2, u3]) x W ∧ RWa W.heap.size (.agg #[u4, u5, u6, u7]) y W := by
 obtain ⟨cs, rfl, hsz⟩ := okWide_struct Try.underlying50 hv
 rw [qcellsU] at hsz
 obtain ⟨l⟩ := cs
 match l, hsz with
 | [a0, a1, u0, u1, u2, u3, u4, u5, u6, u7], _ =>
  obtain ⟨fuel, hf⟩ := h
  obtain ⟨xs, m, _, ex, _, hxl, hf⟩ := DataW.trod_struct Try.underlying50 hf
  obtain ⟨x0, e0⟩ : ∃ y, xs[0]? = some y := ⟨_, List.getElem?_eq_getElem (by rw [hxl]; decide)⟩
  obtain ⟨x1, e1⟩ : ∃ y, xs[1]? = some y := ⟨_, List.getElem?_eq_getElem (by rw [hxl]; decide)⟩
  obtain ⟨x2, e2⟩ : ∃ y, xs[2]? = some y := ⟨_, List.getElem?_eq_getElem (by rw [hxl]; decide)⟩
  have q0 : DataW.trod enc Try.prog W base sp true m 40 (([a0, a1, u0, u1, u2, u3, u4, u5, u6, u7].drop 0).take (Try.prog.cellsOf 40)) = xs[0]? := hf 0 _ rfl
  have q1 : DataW.trod enc Try.prog W base sp true m 27 (([a0, a1, u0, u1, u2, u3, u4, u5, u6, u7].drop 2).take (Try.prog.cellsOf 27)) = xs[1]? := hf 1 _ rfl
  have q2 : DataW.trod enc Try.prog W base sp true m 27 (([a0, a1, u0, u1, u2, u3, u4, u5, u6, u7].drop 6).take (Try.prog.cellsOf 27)) = xs[2]? := hf 2 _ rfl
  rw [qcellsS, e0] at q0
  rw [qcellsA, e1] at q1
  rw [qcellsA, e2] at q2
  simp only [Prod.mk.injEq] at ex
  rw [ex.1] at hw
  have hw' := hw.agg Try.underlying50
  obtain ⟨lo, hi, r0, r1⟩ := span_of q0
  subst r0 r1
  obtain ⟨x, hx⟩ := wat_of q1 (hw' 1 _ x1.1 rfl (by rw [List.getElem?_map, e1]; rfl))
  obtain ⟨y, hy⟩ := wat_of q2 (hw' 2 _ x2.1 rfl (by rw [List.getElem?_map, e2]; rfl))
  exact ⟨lo, hi, u0, u1, u2, u3, u4, u5, u6, u7, x, y, rfl, hx, hy⟩
end
end Go.Proofs.Ytkoacclbempmdaa

/- How a case that came in is opened. -/
namespace Go.Proofs.Ytkoacclbempmdaa
open Go.ChangeShapes Go.WideShapes Go.ChangeAt Go.RowKit Go.Joins
section
variable {H : Type} {enc : TypeId × Value → H} {W : World} {base : Nat} {sp : Nat → Bool}
set_option maxRecDepth 100000 in
/-- Spans. -/
theorem spans_open {fuel : Nat} {v : Value} {y : DataW H × List MemPlace} (h : DataW.trod enc Try.prog W base sp true fuel 44 [v] = some y) (hw : WB 44 y.1) : ∃ l : List (Int × Int), RR enc2 W.heap.size v l W := by
 obtain ⟨A, c, l, e, hf, hr⟩ := row_open (α := Int × Int) Try.underlying44 qcellsS (by decide) pbS (fun n b o => W.cell? ⟨b, o, none⟩ = some (.int .i64 n.1) ∧ W.cell? ⟨b, o + 1, none⟩ = some (.int .i64 n.2)) (fun fuel a x _ hx => by
  obtain ⟨cs, hl, hc, h2⟩ := cells_of hx
  match cs, hl with
  | [u0, u1], _ =>
   obtain ⟨p, f, rfl, rfl⟩ := span_of h2
   have h0 := hc 0 (by decide)
   have h1 := hc 1 (by decide)
   rw [Addr.add_zero'] at h0
   refine ⟨(p, f), ⟨_, h0.trans rfl⟩, fun hs => ?_⟩
   rw [add_plain hs] at h1
   obtain ⟨b, o, s⟩ := a
   simp only at hs
   subst hs
   exact ⟨h0.trans rfl, h1.trans rfl⟩) h hw
 refine ⟨l, A, c, e, hf, fun hp => ?_⟩
 obtain ⟨b, o, e1, e2, hh⟩ := hr hp
 refine ⟨b, o, e1, e2, fun j u hj => ?_⟩
 obtain ⟨k, i, x, hk, hi, rfl, hu⟩ := E2.inv hj
 obtain ⟨g1, g2⟩ := hh k x hk
 match i, hi with
 | 0, _ => cases hu; exact g1
 | 1, _ => cases hu; exact g2
set_option maxRecDepth 100000 in
/-- A case that came in. -/
theorem case_open {b0 : Nat} {v : Value} {d : DataW H} {p : List MemPlace} (hv : Value.okWide Try.prog W .any b0 46 v) (h : DataW.Trod enc Try.prog W base sp true 46 v d p) (hw : WB 46 d) : ∃ s : Ca, RCa W.heap.size v s W := by
 obtain ⟨v0, v1, y0, y1, m, rfl, rfl, _, h0, h1⟩ := open_agg2 Try.underlying46 (by kernel_rfl) qcellsK hv h
 have hw' := hw.agg Try.underlying46
 obtain ⟨l0, r0⟩ := spans_open h0 (hw' 0 _ y0.1 rfl rfl)
 obtain ⟨l1, r1⟩ := spans_open h1 (hw' 1 _ y1.1 rfl rfl)
 exact ⟨⟨l0, l1⟩, _, _, rfl, r0, r1⟩
end
end Go.Proofs.Ytkoacclbempmdaa

/- The law CarrierEnds holds for every input: the row. -/
namespace Go.Proofs.Ytkoacclbempmdaa
open Go.ChangeShapes Go.WideShapes Go.ChangeAt Go.RowKit Go.Joins

namespace carrierEnds
def wargs : Array Value := #[.agg #[.slice none 0 0], .agg #[.slice none 0 0, .slice none 0 0], .int .i64 0, .agg #[.int .i64 0, .int .i64 0, .slice none 0 0, .slice none 0 0, .slice none 0 0, .slice none 0 0, .slice none 0 0, .slice none 0 0, .slice none 0 0, .slice none 0 0]]
theorem laid_met (os : Os) : laidMet Try.prog Rows.carrierEndsRow.laid ((World.holding Try.prog os ⟨#[], #[], []⟩).forCall (fun _ _ => 0) ⟨#[], wargs, []⟩).memory :=
 laidMet_of_run' 8 (by kernel_rfl) (by kernel_rfl)
theorem reads (os : Os) {H : Type} (enc : TypeId × Value → H) : ∃ places, DataW.whole enc Try.prog ((World.holding Try.prog os ⟨#[], #[], []⟩).forCall (fun _ _ => 0) ⟨#[], wargs, []⟩).memory Try.f13.params.toList Rows.carrierEndsSpec.vars false wargs.toList 8 = some ([.agg [.nil], .agg [.nil, .nil], .lit (.int .i64 0), .agg [.agg [.lit (.int .i64 0), .lit (.int .i64 0)], .agg [.nil, .nil, .nil, .nil], .agg [.nil, .nil, .nil, .nil]]], [], places) :=
 ⟨[], by kernel_rfl⟩

set_option maxHeartbeats 1000000 in
set_option maxRecDepth 100000 in
/-- What the walk gives, for every argument. -/
theorem contract (H : Type) (enc : TypeId × Value → H) (W : World) (base : Nat) (args : Array Value) (ds gs : List (DataW H)) (before : List MemPlace)
  (hval : ∀ (j : Nat) t v, Try.f13.params[j]? = some t → args[j]? = some v → Value.okWide Try.prog W .any base t v)
  (hW : DataW.Whole enc Try.prog Try.f13.params.toList Rows.carrierEndsSpec.vars false W args.toList ds gs before)
  (hwt : (DataW.weightsEach Try.prog (Try.f13.params.toList ++ DataSpec.varTypes Try.prog (OpenSpec.ofChange Rows.carrierEndsSpec).bare.plain) (ds ++ gs)).all (· ≤ reachBytes) = true) :
  Calls Try.prog 13 args W fun e W' => ∃ v, e = .returned v ∧ Rows.carrierEndsSpec.post enc Try.prog Try.f13 false true false false W args v W' := by
 have hW' := hW
 obtain ⟨p, q, hA0, hV, rfl, hfz, hnd⟩ := hW
 have hA : DataW.TrodAll enc Try.prog W 0 (fun _ => true) true Try.f13.params.toList args.toList ds p := hA0
 have hAk := hA
 have hsize : ∀ t ∈ Try.f13.params.toList, t < Try.prog.types.size := by rw [Try.params13]; decide +kernel
 have hwt' := hwt
 rw [Try.params13] at hA hval hwt'
 obtain ⟨v0, vs0, d0, ds0, p0, q0, hargs, rfl, rfl, h0, r0⟩ := trodAll_cons hA
 obtain ⟨v1, vs1, d1, ds1, p1, q1, rfl, rfl, rfl, h1, r1⟩ := trodAll_cons r0
 obtain ⟨v2, vs2, d2, ds2, p2, q2, rfl, rfl, rfl, h2, r2⟩ := trodAll_cons r1
 obtain ⟨v3, vs3, d3, ds3, p3, q3, rfl, rfl, rfl, h3, r3⟩ := trodAll_cons r2
 obtain ⟨rfl, rfl, rfl⟩ := trodAll_nil r3
 obtain rfl : args = #[v0, v1, v2, v3] := by cases args; simp_all
 obtain ⟨rfl, rfl⟩ := trodVars_none hV
 obtain ⟨A, c, ws, rfl, hk⟩ := works_open (hval 0 24 v0 rfl rfl) h0 (WB.each _ _ hwt' 0 _ _ rfl rfl)
 obtain ⟨s1, hs1⟩ := case_open (hval 1 46 v1 rfl rfl) h1 (WB.each _ _ hwt' 1 _ _ rfl rfl)
 obtain ⟨n2, rfl, rfl, rfl, wn2⟩ := open_int Try.underlying3 (hval 2 3 v2 rfl rfl) h2
 obtain ⟨lo3, hi3, u0, u1, u2, u3, u4, u5, u6, u7, x3, y3, rfl, hx3, hy3⟩ := supply_open (hval 3 50 v3 rfl rfl) h3 (WB.each _ _ hwt' 3 _ _ rfl rfl)
 have hcall := ends_law A c v1 u0 u1 u2 u3 u4 u5 u6 u7 ws s1 x3 y3 n2 lo3 hi3 W hk hs1 hx3 hy3 wn2
 refine hcall.mono fun e W' ⟨he, hb⟩ => ?_
 subst he
 refine ⟨_, rfl, _, _, _, [], _, [], hW', ?_, args_again hb hsize hAk, ?_, hb.frame _, fun h => by cases h⟩
 ·exact trodAll_cons_mk (shut_bool Try.underlying4 _) trodAll_mk0
 ·rfl

set_option maxRecDepth 100000 in
theorem lifted (os : Os) (started : os.Started) (H : Type) (enc : TypeId × Value → H) (F : Stop.Interp) :
  ReturnsInHanded {} Try.checked os 13 .any ((OpenSpec.ofChange Rows.carrierEndsSpec).preRow enc Try.prog Try.f13 Rows.carrierEndsRow.domain false Rows.carrierEndsRow.laid) (((OpenSpec.ofChange Rows.carrierEndsSpec).at F).post enc Try.prog Try.f13 false true false false) := by
 obtain ⟨places, hx⟩ := reads os enc
 refine returnsInHanded_of_row (C := Try.checked) (s := OpenSpec.ofChange Rows.carrierEndsSpec) own started (by kernel_rfl) Try.func13
  (witness_row_at (enc := enc) (C := Try.checked) false (World.holding Try.prog os ⟨#[], #[], []⟩) wargs rfl (by kernel_rfl) (by kernel_rfl) (by kernel_rfl)
   (OpenSpec.preRow_of_cond 8 hx (by kernel_rfl) (fun k hk => by cases hk) (by kernel_rfl) (laid_met os))) ?_
 intro W base args ds gs before hval hW _ _ hwt hL _ _
 exact contract H enc W base args ds gs before hval hW hwt

theorem said : Rows.CarrierEndsSaid :=
 OpenClaim.holds_of_cond 13 Try.f13 rfl rfl rfl rfl rfl rfl rfl ⟨rfl, rfl, rfl, rfl, rfl⟩ rfl rfl rfl rfl rfl (by kernel_rfl) Try.func13 (by kernel_rfl)
  (of_decide_eq_true (by kernel_rfl)) (by unfold Func.isWrapper; first | (rw [if_pos (by decide +kernel)]; kernel_rfl) | (rw [if_neg (by decide +kernel)]; exact ⟨rfl, rfl⟩))
  (fun os started H enc _ F => by rw [OpenClaim.pre_eq_preRow]; exact lifted os started H enc F)
end carrierEnds
theorem carrierEnds_holds : Rows.CarrierEndsSaid := carrierEnds.said
end Go.Proofs.Ytkoacclbempmdaa
