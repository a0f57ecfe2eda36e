/- Contract of endsOf. -/
import Derived.Test.YtkoacclbempmdaaOOI
namespace Go.Proofs.Ytkoacclbempmdaa
open Go.RowKit
attribute [local go_sem] Oper.semAt_some

set_option maxHeartbeats 16000000 in
set_option maxRecDepth 1000000 in
theorem endsOf_any (A : Option Addr) (c : Nat) (cv : Value) (ws : Wk) (s : Ca) (id : Int) (i : Nat) (p : Pl) (w : World) (h : RK w.heap.size (.slice A ws.length c) ws w) (hs : RCa w.heap.size cv s w)
  (hw : WOk ws) (hc : CaOk ws s) (hid : (Lit.int .i64 id).wf = true) (hf : FstIs (fun o : Ou => o.id) (outs ws) id i) (hp : (allP ws)[i]? = some p) :
  Calls Try.prog 83 #[.agg #[.slice A ws.length c], cv, .int .i64 id] w fun ed w' => ∃ a1 a2 a3 a4 b1 b2 b3 b4, ed = .returned (.agg #[.int .i64 (flE ws s id i 1), .int .i64 (flE ws s id i (-1)), a1, a2, a3, a4, b1, b2, b3, b4]) ∧ OW w.heap.size (.agg #[a1, a2, a3, a4]) (exW ws s (endE ws id) 1) w' ∧ OW w.heap.size (.agg #[b1, b2, b3, b4]) (exW ws s (endE ws id) (-1)) w' ∧ Below w.heap.size w w' := by
 obtain ⟨B1, b1, B2, b2, rfl⟩ := hs.form
 have H := Lib.hid h
 have HS := Lib.hid hs
 have HW := Lib.hid hw
 have HC := Lib.hid hc
 have HF := Lib.hid hf
 have HP := Lib.hid hp
 have C1 := Lib.hid fun W (hb : Below w.heap.size w W) => find_any (.slice A ws.length c) ws id W (h.up hb.size hb) (by have := hw.tot; omega)
 have C2 := Lib.hid fun W (hb : Below w.heap.size w W) => signsOf_any A c ws id W (h.up hb.size hb) hw hid
 clear h hs hw hc hid hf hp
 go_enter Try.func83, Try.ntmps83
 go_wp2_with fail
 refine (C1.out _ ?b).mono ?_
 case b => exact (((Below.refl _ _).alloc (Nat.le_refl _) _).alloc (by simp) _).alloc (by simp; omega) _
 rintro e w1 ⟨pa, pb, pc, pf, rfl, hfr, bb1⟩
 obtain ⟨rfl, rfl, rfl, rfl⟩ := HF.out.find HP.out hfr
 have S1 : Hid (EnS w (.slice A ws.length c) (.slice B1 s.river.length b1) (.slice B2 s.boards.length b2) w1) := Lib.hid (EnS.below ⟨by simp [go_sem], by simp [go_sem], by simp [go_sem], fun j hj => by
  match j, hj with
  | 0, _ => exact ⟨by simp [go_sem], by simp [go_sem]⟩
  | 1, _ => exact ⟨by simp [go_sem], by simp [go_sem]⟩
  | 2, _ => exact ⟨by simp [go_sem], by simp [go_sem]⟩
  | 3, _ => exact ⟨by simp [go_sem], by simp [go_sem]⟩
  | 4, _ => exact ⟨by simp [go_sem], by simp [go_sem]⟩
  | 5, _ => exact ⟨by simp [go_sem], by simp [go_sem]⟩
  | 6, _ => exact ⟨by simp [go_sem], by simp [go_sem]⟩
  | 7, _ => exact ⟨by simp [go_sem], by simp [go_sem]⟩
  | 8, _ => exact ⟨by simp [go_sem], by simp [go_sem]⟩
  | 9, _ => exact ⟨by simp [go_sem], by simp [go_sem]⟩
  | j + 10, hj => omega, (((Below.refl _ _).alloc (Nat.le_refl _) _).alloc (by simp) _).alloc (by simp; omega) _⟩ bb1)
 clear bb1 hfr C1
 obtain ⟨W2, hW2⟩ : ∃ W2, w1.alloc (.cells #[.int .i64 i, .int .i64 p.c, .int .i64 p.n] 133) = W2 := ⟨_, rfl⟩
 have bW2 : Below w1.heap.size w1 W2 := by rw [← hW2]; exact (Below.refl _ _).alloc (Nat.le_refl _) _
 have S2 := Lib.hid (S1.out.below bW2)
 have P2 : Hid (W2.cell? ⟨w1.heap.size, 0, none⟩ = some (.int .i64 i)) := Lib.hid (by rw [← hW2]; simp [go_sem])
 have x0 : (w1.alloc (.cells #[.int .i64 i, .int .i64 p.c, .int .i64 p.n] 133)).cell? ⟨w.heap.size, 0, none⟩ = some (.slice A ws.length c) := by rw [hW2]; exact S2.out.wk
 have Z2 : Hid (w.heap.size + 3 ≤ w1.heap.size) := Lib.hid S1.out.siz
 have HW2 := Lib.hid hW2
 clear hW2 bW2
 go_wp2_with fail
 rw [HW2.out]
 refine (C2.out _ S2.out.bel).mono ?_
 rintro e w3 ⟨v1, v2, v3, rfl, o1, o2, o3, bb3⟩
 obtain ⟨G1, g1, rfl, -⟩ := o1.form
 obtain ⟨G2, g2, rfl, -⟩ := o2.form
 obtain ⟨G3_, g3, rfl, -⟩ := o3.form
 have hsl : total ws ≤ 60 := HW.out.tot
 have hh1 : (sigH ws id).length ≤ 16 := by have := headsL_len HW.out; simpa [sigH, headsL] using this
 have hh2 : (sigO ws id).length ≤ 60 := by simp [sigO, allP_len]; exact hsl
 have hh3 : (sigR ws id).length ≤ 60 := by simp [sigR, allP_len]; exact hsl
 have R1 := Lib.hid (o1.rr EI (by omega))
 have R2 := Lib.hid (o2.rr EI (by omega))
 have R3 := Lib.hid (o3.rr EI (by omega))
 obtain ⟨m1, hm1⟩ : ∃ m, (sigH ws id).length = m := ⟨_, rfl⟩
 obtain ⟨m2, hm2⟩ : ∃ m, (sigO ws id).length = m := ⟨_, rfl⟩
 obtain ⟨m3, hm3⟩ : ∃ m, (sigR ws id).length = m := ⟨_, rfl⟩
 rw [hm1] at R1
 rw [hm2] at R2
 rw [hm3] at R3
 rw [hm1, hm2, hm3]
 have S3 := Lib.hid (S2.out.below bb3)
 have P3 := Lib.hid (BelS.c bb3 P2.out)
 obtain ⟨W4, hW4⟩ : ∃ W4, w3.alloc (.cells #[.slice G1 m1 g1, .slice G2 m2 g2, .slice G3_ m3 g3] 138) = W4 := ⟨_, rfl⟩
 have bW4 : Below w3.heap.size w3 W4 := by rw [← hW4]; exact (Below.refl _ _).alloc (Nat.le_refl _) _
 have S4 := Lib.hid (S3.out.below bW4)
 have P4 := Lib.hid (BelS.c bW4 P3.out)
 have q1 : W4.cell? ⟨w3.heap.size, 0, none⟩ = some (.slice G1 m1 g1) := by rw [← hW4]; simp [go_sem]
 have q2 : W4.cell? ⟨w3.heap.size, 1, none⟩ = some (.slice G2 m2 g2) := by rw [← hW4]; simp [go_sem]
 have q3 : W4.cell? ⟨w3.heap.size, 2, none⟩ = some (.slice G3_ m3 g3) := by rw [← hW4]; simp [go_sem]
 have Q4 := Lib.hid (And.intro q1 (And.intro q2 q3))
 have R1 := Lib.hid (R1.out.up bW4.size bW4)
 have R2 := Lib.hid (R2.out.up bW4.size bW4)
 have R3 := Lib.hid (R3.out.up bW4.size bW4)
 have HW4 := Lib.hid hW4
 have Z4 : Hid (w1.heap.size < w3.heap.size ∧ w3.heap.size < W4.heap.size) := Lib.hid ⟨by have := bb3.size; have h9 : w1.heap.size < W2.heap.size := World.block_lt_of_cell? _ _ P2.out; omega, World.block_lt_of_cell? _ _ q1⟩
 clear o1 o2 o3 bb3 hm1 hm2 hm3 hh1 hh2 hh3 hW4 bW4 q1 q2 q3 x0 S1 S2 S3 P2 P3 C2
 obtain ⟨x, hx⟩ : ∃ x, exW ws s (endE ws id) 1 = x := ⟨_, rfl⟩
 obtain ⟨y, hy⟩ : ∃ y, exW ws s (endE ws id) (-1) = y := ⟨_, rfl⟩
 have CX : Hid (∀ way, way = 1 ∨ way = -1 → ∀ W, Below W4.heap.size W4 W → Calls Try.prog 131 #[.agg #[.slice A ws.length c], .agg #[.slice B1 s.river.length b1, .slice B2 s.boards.length b2], .agg #[.slice G1 m1 g1, .slice G2 m2 g2, .slice G3_ m3 g3], .int .i64 way] W fun ed w' => ∃ v1 v2 v3 v4, ed = .returned (.agg #[v1, v2, v3, v4]) ∧ OwnG encI 1 3 W.heap.size v1 (exW ws s (endE ws id) way).river w' ∧ OwnG encI 1 3 W.heap.size v2 (exW ws s (endE ws id) way).boards w' ∧ OwnG encI 1 3 W.heap.size v3 (exW ws s (endE ws id) way).leaks w' ∧ OwnG encI 1 3 W.heap.size v4 (exW ws s (endE ws id) way).losses w' ∧ Below W.heap.size W w') := Lib.hid fun way hway W hb => by
  have hbw := S4.out.bel.trans (hb.mono S4.out.bel.size)
  exact extreme_any A c _ _ _ _ ws s (endE ws id) way W (H.out.up hbw.size hbw) (HS.out.up hbw.size hbw) (R1.out.up hb.size hb) (R2.out.up hb.size hb) (R3.out.up hb.size hb) HW.out HC.out hway
 have HXY : Hid (WaOk ws x ∧ WaOk ws y ∧ (flowF ws x).thr.getD i 0 = flE ws s id i 1 ∧ (flowF ws y).thr.getD i 0 = flE ws s id i (-1) ∧ exW ws s (endE ws id) 1 = x ∧ exW ws s (endE ws id) (-1) = y) := Lib.hid ⟨by rw [← hx]; exact exW_ok HW.out HC.out _ _, by rw [← hy]; exact exW_ok HW.out HC.out _ _, by rw [← hx]; rfl, by rw [← hy]; rfl, hx, hy⟩
 have CX1 := Lib.hid (CX.out 1 (.inl rfl))
 have CX2 := Lib.hid (CX.out (-1) (.inr rfl))
 rw [hx] at CX1
 rw [hy] at CX2
 clear hx hy CX R1 R2 R3
 go_upto_region 3 with fail
 rw [HW4.out]
 go_cut [10] (fun s10 wx => ∃ (g : Nat) (a1 a2 a3 a4 d1 d2 d3 d4 : Value), s10 = .pointer (some ⟨g, 0, none⟩) ∧ EnR W4 g 0 0 a1 a2 a3 a4 d1 d2 d3 d4 x y wx)
 case first =>
  obtain ⟨Wd, hWd⟩ : ∃ Wd, W4.drew = Wd := ⟨_, rfl⟩
  have bD : Below W4.heap.size W4 Wd := by rw [← hWd]; exact (Below.refl _ _).drew
  have HB4 := Lib.hid bD
  have HD4 : Hid (W4.heap.size ≤ Wd.heap.size) := Lib.hid bD.size
  have k0 := BelS.c bD S4.out.wk
  have k1 := BelS.c bD S4.out.ca
  have k2 := BelS.c bD S4.out.cb
  have k3 := BelS.c bD Q4.out.1
  have k4 := BelS.c bD Q4.out.2.1
  have k5 := BelS.c bD Q4.out.2.2
  have CX1 := Lib.hid fun W (hb : Below Wd.heap.size Wd W) => CX1.out W (HB4.out.trans (hb.mono HD4.out))
  have CX2 := Lib.hid fun W (hb : Below Wd.heap.size Wd W) => CX2.out W (HB4.out.trans (hb.mono HD4.out))
  have HWd := Lib.hid hWd
  clear hWd bD
  refine wp_region_T 10 (S := BelS Wd) (by kernel_rfl) (by rw [HWd.out]; exact Below.refl _ _) (fun J0 => ?_)
  rw [HWd.out] at J0 ⊢
  have KK1 := Lib.hid fun (w_ : World) (hSw : BelS _ w_) => And.intro (hSw.c k0) (And.intro (hSw.c k1) (And.intro (hSw.c k2) (And.intro (hSw.c k3) (And.intro (hSw.c k4) (hSw.c k5)))))
  refine tq KK1 0 20 J0 ?_
  try simp only [aS]
  refine tq KK1 1 21 J0 ?_
  try simp only [aS]
  refine tq KK1 2 22 J0 ?_
  try simp only [aS]
  refine tq KK1 4 24 J0 ?_
  try simp only [aS]
  refine tq KK1 5 25 J0 ?_
  try simp only [aS]
  refine tq KK1 6 26 J0 ?_
  try simp only [aS]
  refine twoT (i := 3) (j := 9) (by kernel_rfl) rfl rfl (fun K hK => ?_) (fun K hK => ?_)
  ·go_simp
   refine (CX1.out _ (BelS.b J0)).mono ?_
   rintro e wq1 ⟨a1, a2, a3, a4, rfl, o1, o2, o3, o4, bq1⟩
   have na1 : ∀ b, a1.ownBlock = some b → Wd.heap.size ≤ b ∧ b < wq1.heap.size := fun b hb => o1.lt b hb
   have na2 : ∀ b, a2.ownBlock = some b → Wd.heap.size ≤ b ∧ b < wq1.heap.size := fun b hb => o2.lt b hb
   have na3 : ∀ b, a3.ownBlock = some b → Wd.heap.size ≤ b ∧ b < wq1.heap.size := fun b hb => o3.lt b hb
   have na4 : ∀ b, a4.ownBlock = some b → Wd.heap.size ≤ b ∧ b < wq1.heap.size := fun b hb => o4.lt b hb
   have o1 := o1.low (base' := W4.heap.size) (by have := Below.size J0; have := HD4.out; omega)
   have o2 := o2.low (base' := W4.heap.size) (by have := Below.size J0; have := HD4.out; omega)
   have o3 := o3.low (base' := W4.heap.size) (by have := Below.size J0; have := HD4.out; omega)
   have o4 := o4.low (base' := W4.heap.size) (by have := Below.size J0; have := HD4.out; omega)
   have J1 := J0.below bq1
   have sz1 := bq1.size
   refine hK.out _ _ J1 ?_
   clear hK K
   try simp only [aS]
   refine twoT (i := 7) (j := 9) (by kernel_rfl) rfl rfl (fun K hK => ?_) (fun K hK => ?_)
   ·go_simp
    refine (CX2.out _ (BelS.b J1)).mono ?_
    rintro e wq2 ⟨d1, d2, d3, d4, rfl, p1, p2, p3, p4, bq2⟩
    have nd1 : ∀ b, d1.ownBlock = some b → wq1.heap.size ≤ b ∧ b < wq2.heap.size := fun b hb => p1.lt b hb
    have nd2 : ∀ b, d2.ownBlock = some b → wq1.heap.size ≤ b ∧ b < wq2.heap.size := fun b hb => p2.lt b hb
    have nd3 : ∀ b, d3.ownBlock = some b → wq1.heap.size ≤ b ∧ b < wq2.heap.size := fun b hb => p3.lt b hb
    have nd4 : ∀ b, d4.ownBlock = some b → wq1.heap.size ≤ b ∧ b < wq2.heap.size := fun b hb => p4.lt b hb
    have p1 := p1.low (base' := W4.heap.size) (by have := Below.size J1; have := HD4.out; omega)
    have p2 := p2.low (base' := W4.heap.size) (by have := Below.size J1; have := HD4.out; omega)
    have p3 := p3.low (base' := W4.heap.size) (by have := Below.size J1; have := HD4.out; omega)
    have p4 := p4.low (base' := W4.heap.size) (by have := Below.size J1; have := HD4.out; omega)
    have J2 := J1.below bq2
    have sz2 := bq2.size
    have o1 := o1.below bq2
    have o2 := o2.below bq2
    have o3 := o3.below bq2
    have o4 := o4.below bq2
    refine hK.out _ _ J2 ?_
    clear hK K
    try simp only [aS]
    refine tt 8 28 J2 ?_
    try simp only [aS]
    refine oneT (i := 9) (by kernel_rfl) rfl (fun K hK => ?_)
    go_simp
    obtain ⟨wq3, hwq3⟩ : ∃ wq3, wq2.alloc (.cells #[.int .i64 0, .int .i64 0, .slice none 0 0, .slice none 0 0, .slice none 0 0, .slice none 0 0, .slice none 0 0, .slice none 0 0, .slice none 0 0, .slice none 0 0] 50) = wq3 := ⟨_, rfl⟩
    have bq3 : Below wq2.heap.size wq2 wq3 := by rw [← hwq3]; exact (Below.refl _ _).alloc (Nat.le_refl _) _
    obtain ⟨g, hge⟩ : ∃ g, wq2.heap.size = g := ⟨_, rfl⟩
    have tg : wq3.there g 0 10 := by rw [← hwq3, ← hge]; exact tenZ _
    have hg : g < wq3.heap.size := there_lt tg (by decide)
    rw [hwq3]
    try rw [hge]
    have J3 := J2.below bq3
    have o1 := o1.below bq3
    have o2 := o2.below bq3
    have o3 := o3.below bq3
    have o4 := o4.below bq3
    have p1 := p1.below bq3
    have p2 := p2.below bq3
    have p3 := p3.below bq3
    have p4 := p4.below bq3
    have hgW : W4.heap.size ≤ g := by have := Below.size J2; have := HD4.out; omega
    have ma1 : a1.ownBlock ≠ some g := fun hb => by have := (na1 g hb).2; omega
    have ma2 : a2.ownBlock ≠ some g := fun hb => by have := (na2 g hb).2; omega
    have ma3 : a3.ownBlock ≠ some g := fun hb => by have := (na3 g hb).2; omega
    have ma4 : a4.ownBlock ≠ some g := fun hb => by have := (na4 g hb).2; omega
    have md1 : d1.ownBlock ≠ some g := fun hb => by have := (nd1 g hb).2; omega
    have md2 : d2.ownBlock ≠ some g := fun hb => by have := (nd2 g hb).2; omega
    have md3 : d3.ownBlock ≠ some g := fun hb => by have := (nd3 g hb).2; omega
    have md4 : d4.ownBlock ≠ some g := fun hb => by have := (nd4 g hb).2; omega
    have HH3 := Lib.hid (And.intro hge hwq3)
    clear hge hwq3
    refine hK.out _ _ J3 ?_
    clear hK K
    try simp only [aS]
    refine lastT (by kernel_rfl) rfl (fun K hK => ?_)
    have RS := run_storeAt_mid (P := Try.prog) wq3 g 0 50 #[.int .i64 0, .int .i64 0, a1, a2, a3, a4, d1, d2, d3, d4] tg (by kernel_rfl) (tenOne o1 o2 o3 o4 p1 p2 p3 p4)
    rw [if_pos (by rfl)]
    refine wp_store_run 50 _ _ rfl (u := .pointer (some ⟨g, 0, none⟩)) (v := .agg #[.int .i64 0, .int .i64 0, a1, a2, a3, a4, d1, d2, d3, d4]) rfl rfl RS ?_
    refine hK.out _ _ ?_
    clear hK K
    refine doneT (by kernel_rfl) ?_ _
    have ER := EnR.make (g := g) hgW (HB4.out.trans (Below.mono J3 HD4.out)) tg 0 0 o1 o2 o3 o4 p1 p2 p3 p4 (by simp only [List.mem_cons, List.not_mem_nil, or_false]; rintro v (rfl | rfl | rfl | rfl | rfl | rfl | rfl | rfl) <;> assumption)
    have ER := Lib.hid ER
    clear o1 o2 o3 o4 p1 p2 p3 p4 tg hg RS
    go_wp2_with fail
    go_meet
    exact ⟨g, a1, a2, a3, a4, d1, d2, d3, d4, rfl, ER.out⟩
   ·go_simp
    obtain ⟨wq2, hwq2⟩ : ∃ wq2, wq1.alloc (.cells #[.int .i64 0, .int .i64 0, .slice none 0 0, .slice none 0 0, .slice none 0 0, .slice none 0 0, .slice none 0 0, .slice none 0 0, .slice none 0 0, .slice none 0 0] 50) = wq2 := ⟨_, rfl⟩
    have bq2 : Below wq1.heap.size wq1 wq2 := by rw [← hwq2]; exact (Below.refl _ _).alloc (Nat.le_refl _) _
    obtain ⟨g, hge⟩ : ∃ g, wq1.heap.size = g := ⟨_, rfl⟩
    have tg : wq2.there g 0 10 := by rw [← hwq2, ← hge]; exact tenZ _
    have hg : g < wq2.heap.size := there_lt tg (by decide)
    rw [hwq2]
    try rw [hge]
    have J2 := J1.below bq2
    have o1 := o1.below bq2
    have o2 := o2.below bq2
    have o3 := o3.below bq2
    have o4 := o4.below bq2
    have hgW : W4.heap.size ≤ g := by have := Below.size J1; have := HD4.out; omega
    have ma1 : a1.ownBlock ≠ some g := fun hb => by have := (na1 g hb).2; omega
    have ma2 : a2.ownBlock ≠ some g := fun hb => by have := (na2 g hb).2; omega
    have ma3 : a3.ownBlock ≠ some g := fun hb => by have := (na3 g hb).2; omega
    have ma4 : a4.ownBlock ≠ some g := fun hb => by have := (na4 g hb).2; omega
    have HH2 := Lib.hid (And.intro hge hwq2)
    clear hge hwq2
    refine hK.out _ _ J2 ?_
    clear hK K
    try simp only [aS]
    refine oneT (i := 7) (by kernel_rfl) rfl (fun K hK => ?_)
    go_simp
    refine (CX2.out _ (BelS.b J2)).mono ?_
    rintro e wq3 ⟨d1, d2, d3, d4, rfl, p1, p2, p3, p4, bq3⟩
    have nd1 : ∀ b, d1.ownBlock = some b → wq2.heap.size ≤ b ∧ b < wq3.heap.size := fun b hb => p1.lt b hb
    have nd2 : ∀ b, d2.ownBlock = some b → wq2.heap.size ≤ b ∧ b < wq3.heap.size := fun b hb => p2.lt b hb
    have nd3 : ∀ b, d3.ownBlock = some b → wq2.heap.size ≤ b ∧ b < wq3.heap.size := fun b hb => p3.lt b hb
    have nd4 : ∀ b, d4.ownBlock = some b → wq2.heap.size ≤ b ∧ b < wq3.heap.size := fun b hb => p4.lt b hb
    have p1 := p1.low (base' := W4.heap.size) (by have := Below.size J2; have := HD4.out; omega)
    have p2 := p2.low (base' := W4.heap.size) (by have := Below.size J2; have := HD4.out; omega)
    have p3 := p3.low (base' := W4.heap.size) (by have := Below.size J2; have := HD4.out; omega)
    have p4 := p4.low (base' := W4.heap.size) (by have := Below.size J2; have := HD4.out; omega)
    have J3 := J2.below bq3
    have sz3 := bq3.size
    have o1 := o1.below bq3
    have o2 := o2.below bq3
    have o3 := o3.below bq3
    have o4 := o4.below bq3
    have tg := there_below tg hg bq3
    have hg := Nat.lt_of_lt_of_le hg bq3.size
    refine hK.out _ _ J3 ?_
    clear hK K
    try simp only [aS]
    refine tt 8 28 J3 ?_
    try simp only [aS]
    refine lastT (by kernel_rfl) rfl (fun K hK => ?_)
    have md1 : d1.ownBlock ≠ some g := fun hb => by have := (nd1 g hb).1; omega
    have md2 : d2.ownBlock ≠ some g := fun hb => by have := (nd2 g hb).1; omega
    have md3 : d3.ownBlock ≠ some g := fun hb => by have := (nd3 g hb).1; omega
    have md4 : d4.ownBlock ≠ some g := fun hb => by have := (nd4 g hb).1; omega
    have RS := run_storeAt_mid (P := Try.prog) wq3 g 0 50 #[.int .i64 0, .int .i64 0, a1, a2, a3, a4, d1, d2, d3, d4] tg (by kernel_rfl) (tenOne o1 o2 o3 o4 p1 p2 p3 p4)
    rw [if_pos (by rfl)]
    refine wp_store_run 50 _ _ rfl (u := .pointer (some ⟨g, 0, none⟩)) (v := .agg #[.int .i64 0, .int .i64 0, a1, a2, a3, a4, d1, d2, d3, d4]) rfl rfl RS ?_
    refine hK.out _ _ ?_
    clear hK K
    refine doneT (by kernel_rfl) ?_ _
    have ER := EnR.make (g := g) hgW (HB4.out.trans (Below.mono J3 HD4.out)) tg 0 0 o1 o2 o3 o4 p1 p2 p3 p4 (by simp only [List.mem_cons, List.not_mem_nil, or_false]; rintro v (rfl | rfl | rfl | rfl | rfl | rfl | rfl | rfl) <;> assumption)
    have ER := Lib.hid ER
    clear o1 o2 o3 o4 p1 p2 p3 p4 tg hg RS
    go_wp2_with fail
    go_meet
    exact ⟨g, a1, a2, a3, a4, d1, d2, d3, d4, rfl, ER.out⟩
  ·go_simp
   obtain ⟨wq1, hwq1⟩ : ∃ wq1, Wd.alloc (.cells #[.int .i64 0, .int .i64 0, .slice none 0 0, .slice none 0 0, .slice none 0 0, .slice none 0 0, .slice none 0 0, .slice none 0 0, .slice none 0 0, .slice none 0 0] 50) = wq1 := ⟨_, rfl⟩
   have bq1 : Below Wd.heap.size Wd wq1 := by rw [← hwq1]; exact (Below.refl _ _).alloc (Nat.le_refl _) _
   obtain ⟨g, hge⟩ : ∃ g, Wd.heap.size = g := ⟨_, rfl⟩
   have tg : wq1.there g 0 10 := by rw [← hwq1, ← hge]; exact tenZ _
   have hg : g < wq1.heap.size := there_lt tg (by decide)
   rw [hwq1]
   try rw [hge]
   have J1 := J0.below bq1
   have hgW : W4.heap.size ≤ g := by have := Below.size J0; have := HD4.out; omega
   have HH1 := Lib.hid (And.intro hge hwq1)
   clear hge hwq1
   refine hK.out _ _ J1 ?_
   clear hK K
   try simp only [aS]
   refine oneT (i := 3) (by kernel_rfl) rfl (fun K hK => ?_)
   go_simp
   refine (CX1.out _ (BelS.b J1)).mono ?_
   rintro e wq2 ⟨a1, a2, a3, a4, rfl, o1, o2, o3, o4, bq2⟩
   have na1 : ∀ b, a1.ownBlock = some b → wq1.heap.size ≤ b ∧ b < wq2.heap.size := fun b hb => o1.lt b hb
   have na2 : ∀ b, a2.ownBlock = some b → wq1.heap.size ≤ b ∧ b < wq2.heap.size := fun b hb => o2.lt b hb
   have na3 : ∀ b, a3.ownBlock = some b → wq1.heap.size ≤ b ∧ b < wq2.heap.size := fun b hb => o3.lt b hb
   have na4 : ∀ b, a4.ownBlock = some b → wq1.heap.size ≤ b ∧ b < wq2.heap.size := fun b hb => o4.lt b hb
   have o1 := o1.low (base' := W4.heap.size) (by have := Below.size J1; have := HD4.out; omega)
   have o2 := o2.low (base' := W4.heap.size) (by have := Below.size J1; have := HD4.out; omega)
   have o3 := o3.low (base' := W4.heap.size) (by have := Below.size J1; have := HD4.out; omega)
   have o4 := o4.low (base' := W4.heap.size) (by have := Below.size J1; have := HD4.out; omega)
   have J2 := J1.below bq2
   have sz2 := bq2.size
   have tg := there_below tg hg bq2
   have hg := Nat.lt_of_lt_of_le hg bq2.size
   refine hK.out _ _ J2 ?_
   clear hK K
   try simp only [aS]
   refine oneT (i := 7) (by kernel_rfl) rfl (fun K hK => ?_)
   go_simp
   refine (CX2.out _ (BelS.b J2)).mono ?_
   rintro e wq3 ⟨d1, d2, d3, d4, rfl, p1, p2, p3, p4, bq3⟩
   have nd1 : ∀ b, d1.ownBlock = some b → wq2.heap.size ≤ b ∧ b < wq3.heap.size := fun b hb => p1.lt b hb
   have nd2 : ∀ b, d2.ownBlock = some b → wq2.heap.size ≤ b ∧ b < wq3.heap.size := fun b hb => p2.lt b hb
   have nd3 : ∀ b, d3.ownBlock = some b → wq2.heap.size ≤ b ∧ b < wq3.heap.size := fun b hb => p3.lt b hb
   have nd4 : ∀ b, d4.ownBlock = some b → wq2.heap.size ≤ b ∧ b < wq3.heap.size := fun b hb => p4.lt b hb
   have p1 := p1.low (base' := W4.heap.size) (by have := Below.size J2; have := HD4.out; omega)
   have p2 := p2.low (base' := W4.heap.size) (by have := Below.size J2; have := HD4.out; omega)
   have p3 := p3.low (base' := W4.heap.size) (by have := Below.size J2; have := HD4.out; omega)
   have p4 := p4.low (base' := W4.heap.size) (by have := Below.size J2; have := HD4.out; omega)
   have J3 := J2.below bq3
   have sz3 := bq3.size
   have o1 := o1.below bq3
   have o2 := o2.below bq3
   have o3 := o3.below bq3
   have o4 := o4.below bq3
   have tg := there_below tg hg bq3
   have hg := Nat.lt_of_lt_of_le hg bq3.size
   refine hK.out _ _ J3 ?_
   clear hK K
   try simp only [aS]
   refine tt 8 28 J3 ?_
   try simp only [aS]
   refine lastT (by kernel_rfl) rfl (fun K hK => ?_)
   have ma1 : a1.ownBlock ≠ some g := fun hb => by have := (na1 g hb).1; omega
   have ma2 : a2.ownBlock ≠ some g := fun hb => by have := (na2 g hb).1; omega
   have ma3 : a3.ownBlock ≠ some g := fun hb => by have := (na3 g hb).1; omega
   have ma4 : a4.ownBlock ≠ some g := fun hb => by have := (na4 g hb).1; omega
   have md1 : d1.ownBlock ≠ some g := fun hb => by have := (nd1 g hb).1; omega
   have md2 : d2.ownBlock ≠ some g := fun hb => by have := (nd2 g hb).1; omega
   have md3 : d3.ownBlock ≠ some g := fun hb => by have := (nd3 g hb).1; omega
   have md4 : d4.ownBlock ≠ some g := fun hb => by have := (nd4 g hb).1; omega
   have RS := run_storeAt_mid (P := Try.prog) wq3 g 0 50 #[.int .i64 0, .int .i64 0, a1, a2, a3, a4, d1, d2, d3, d4] tg (by kernel_rfl) (tenOne o1 o2 o3 o4 p1 p2 p3 p4)
   rw [if_pos (by rfl)]
   refine wp_store_run 50 _ _ rfl (u := .pointer (some ⟨g, 0, none⟩)) (v := .agg #[.int .i64 0, .int .i64 0, a1, a2, a3, a4, d1, d2, d3, d4]) rfl rfl RS ?_
   refine hK.out _ _ ?_
   clear hK K
   refine doneT (by kernel_rfl) ?_ _
   have ER := EnR.make (g := g) hgW (HB4.out.trans (Below.mono J3 HD4.out)) tg 0 0 o1 o2 o3 o4 p1 p2 p3 p4 (by simp only [List.mem_cons, List.not_mem_nil, or_false]; rintro v (rfl | rfl | rfl | rfl | rfl | rfl | rfl | rfl) <;> assumption)
   have ER := Lib.hid ER
   clear o1 o2 o3 o4 p1 p2 p3 p4 tg hg RS
   go_wp2_with fail
   go_meet
   exact ⟨g, a1, a2, a3, a4, d1, d2, d3, d4, rfl, ER.out⟩
 case rest =>
  obtain ⟨g, a1, a2, a3, a4, d1, d2, d3, d4, rfl, hE⟩ := hcut
  have E5 := Lib.hid hE
  have S5 := Lib.hid (S4.out.grown (GrownL.of_below (bs := []) hE.bel) (by simp))
  have P5 := Lib.hid (BelS.c hE.bel P4.out)
  have HI60 : Hid (i < 60) := Lib.hid (by have := lt_total HP.out; omega)
  clear hE
  go_upto_region 4 with fail
  obtain ⟨Wd, hWd⟩ : ∃ Wd, wc.drew = Wd := ⟨_, rfl⟩
  have bD : Below wc.heap.size wc Wd := by rw [← hWd]; exact (Below.refl _ _).drew
  have ED := Lib.hid (E5.out.below bD)
  have SD := Lib.hid (S5.out.below bD)
  have k0 := SD.out.wk
  have k1 := BelS.c bD P5.out
  have k2 := ED.out.r 2 _ rfl
  have k3 := ED.out.r 3 _ rfl
  have k4 := ED.out.r 4 _ rfl
  have k5 := ED.out.r 5 _ rfl
  have g0 := ED.out.r 0 _ rfl
  have g1 := (ED.out.th 0 (by decide)).2
  simp only [Nat.zero_add] at k2 k3 k4 k5 g0 g1
  have P5d := Lib.hid (BelS.c bD P5.out)
  obtain ⟨F, hF⟩ : ∃ F, flowF ws x = F := ⟨_, rfl⟩
  have HFF5 := Lib.hid hF
  have CR1 := Lib.hid fun W (hb : Below Wd.heap.size Wd W) => run_any A c _ ws x W (H.out.up (SD.out.bel.trans (hb.mono SD.out.bel.size)).size (SD.out.bel.trans (hb.mono SD.out.bel.size))) ((ED.out.wa1 HXY.out HW.out).up hb.size hb) HW.out HXY.out.1
  rw [hF] at CR1
  have FT := Lib.hid (fs_thr F)
  obtain ⟨f5, hf5⟩ : ∃ f, F.thr.getD i 0 = f := ⟨_, rfl⟩
  have HFV5 := Lib.hid hf5
  have FI := Lib.hid (fs_at F i (by have := HI60.out; omega))
  rw [hf5] at FI
  have HWd := Lib.hid hWd
  have hi1 : (i : Int) < 60 := by have := HI60.out; omega
  have hi2 : (0 : Int) ≤ (i : Int) := by omega
  clear hWd bD hF hf5
  refine wp_region_T 10 (S := BelS Wd) (by kernel_rfl) (by rw [HWd.out]; exact Below.refl _ _) (fun J0 => ?_)
  rw [HWd.out] at J0 ⊢
  have KK2 := Lib.hid fun (w_ : World) (hSw : BelS _ w_) => And.intro (hSw.c k0) (And.intro (hSw.c k1) (And.intro (hSw.c k2) (And.intro (hSw.c k3) (And.intro (hSw.c k4) (hSw.c k5)))))
  refine tt 0 29 J0 ?_ (hy := by intro w' hSw; have r6 := FT.out w'; have r7 := FI.out w'; have q := KK2.out w' hSw; go_simp; try with_reducible rfl)
  try simp only [aS]
  refine tt 1 30 J0 ?_ (hy := by intro w' hSw; have r6 := FT.out w'; go_simp; try with_reducible rfl)
  try simp only [aS]
  refine tt 2 31 J0 ?_ (hy := by intro w' hSw; have r6 := FT.out w'; have r7 := FI.out w'; have q := KK2.out w' hSw; go_simp; try with_reducible rfl)
  try simp only [aS]
  refine tt 5 34 J0 ?_ (hy := by intro w' hSw; have r6 := FT.out w'; go_simp; try with_reducible rfl)
  try simp only [aS]
  refine tt 6 35 J0 ?_ (hy := by intro w' hSw; have r6 := FT.out w'; have r7 := FI.out w'; have q := KK2.out w' hSw; go_simp; try with_reducible rfl)
  try simp only [aS]
  refine oneT (i := 3) (by kernel_rfl) rfl (fun K hK => ?_)
  go_simp
  refine (CR1.out _ (BelS.b J0)).mono ?_
  rintro e wq ⟨rfl, bq⟩
  have J1 := J0.below bq
  have EQ := Lib.hid (ED.out.below (Below.mono J1 (Nat.le_refl _)))
  have SQ := Lib.hid (SD.out.below J1)
  have y0 := BelS.c J1 g0
  have y1 := (J1.b.frozen (p := ⟨g, 0, none⟩) ED.out.glt).trans g1
  clear bq
  refine hK.out _ _ J1 ?_
  clear hK K
  try simp only [aS]
  refine tt 4 33 J1 ?_ (hy := by intro w' hSw; have r6 := FT.out w'; go_simp; try with_reducible rfl)
  try simp only [aS]
  refine tt 7 36 J1 ?_ (hy := by intro w' hSw; have r6 := FT.out w'; have r7 := FI.out w'; have q := KK2.out w' hSw; go_simp; try with_reducible rfl)
  try simp only [aS]
  refine oneT (i := 8) (by kernel_rfl) rfl (fun K hK => ?_)
  go_simp
  refine hK.out _ _ J1 ?_
  clear hK K
  try simp only [aS]
  refine tt 9 38 J1 ?_ (hy := by intro w' hSw; have r6 := FT.out w'; go_simp; try with_reducible rfl)
  try simp only [aS]
  refine lastT (by kernel_rfl) rfl (fun K hK => ?_)
  go_simp
  refine hK.out _ _ ?_
  clear hK K
  try simp only [aS]
  refine doneT (by kernel_rfl) ?_ _
  obtain ⟨W6, hW6⟩ : ∃ W6, wq.setCell ⟨g, 0, none⟩ (.int .i64 f5) = W6 := ⟨_, rfl⟩
  have g6 : GrownL [g] wq W6 := by rw [← hW6]; exact GrownL.set _ _ _ (by simp)
  have E6 : Hid (EnR W4 g f5 0 a1 a2 a3 a4 d1 d2 d3 d4 x y W6) := Lib.hid (by rw [← hW6]; exact (EQ.out.one f5).1)
  have hgw : w.heap.size + 3 ≤ g ∧ w1.heap.size < g := by have := EQ.out.ge; have := Z4.out; have := Z2.out; omega
  have HGW := Lib.hid hgw
  have S6 := Lib.hid (SQ.out.grown g6 (by simp; omega))
  have P6 := Lib.hid (g6.cell (BelS.c J1 P5d.out) (by simp; omega))
  rw [hW6]
  clear k0 k1 k2 k3 k4 k5 g0 g1 y0 y1 hi1 hi2 J0 J1 hW6 g6 hgw EQ SQ ED SD E5 S5 P5 P5d FT FI HWd CR1
  go_upto_region 5 with fail
  obtain ⟨Wd, hWd⟩ : ∃ Wd, W6.drew = Wd := ⟨_, rfl⟩
  have bD : Below W6.heap.size W6 Wd := by rw [← hWd]; exact (Below.refl _ _).drew
  have ED := Lib.hid (E6.out.below bD)
  have SD := Lib.hid (S6.out.below bD)
  have k0 := SD.out.wk
  have k1 := BelS.c bD P6.out
  have k2 := ED.out.r 6 _ rfl
  have k3 := ED.out.r 7 _ rfl
  have k4 := ED.out.r 8 _ rfl
  have k5 := ED.out.r 9 _ rfl
  have g0 := ED.out.r 1 _ rfl
  have g1 := (ED.out.th 1 (by decide)).2
  simp only [Nat.zero_add] at k2 k3 k4 k5 g0 g1
  have P6d := Lib.hid (BelS.c bD P6.out)
  obtain ⟨F, hF⟩ : ∃ F, flowF ws y = F := ⟨_, rfl⟩
  have HFF6 := Lib.hid hF
  have CR2 := Lib.hid fun W (hb : Below Wd.heap.size Wd W) => run_any A c _ ws y W (H.out.up (SD.out.bel.trans (hb.mono SD.out.bel.size)).size (SD.out.bel.trans (hb.mono SD.out.bel.size))) ((ED.out.wa2 HXY.out HW.out).up hb.size hb) HW.out HXY.out.2.1
  rw [hF] at CR2
  have FT := Lib.hid (fs_thr F)
  obtain ⟨f6, hf6⟩ : ∃ f, F.thr.getD i 0 = f := ⟨_, rfl⟩
  have HFV6 := Lib.hid hf6
  have FI := Lib.hid (fs_at F i (by have := HI60.out; omega))
  rw [hf6] at FI
  have HWd := Lib.hid hWd
  have hi1 : (i : Int) < 60 := by have := HI60.out; omega
  have hi2 : (0 : Int) ≤ (i : Int) := by omega
  clear hWd bD hF hf6
  refine wp_region_T 10 (S := BelS Wd) (by kernel_rfl) (by rw [HWd.out]; exact Below.refl _ _) (fun J0 => ?_)
  rw [HWd.out] at J0 ⊢
  have KK3 := Lib.hid fun (w_ : World) (hSw : BelS _ w_) => And.intro (hSw.c k0) (And.intro (hSw.c k1) (And.intro (hSw.c k2) (And.intro (hSw.c k3) (And.intro (hSw.c k4) (hSw.c k5)))))
  refine tt 0 39 J0 ?_ (hy := by intro w' hSw; have r6 := FT.out w'; have r7 := FI.out w'; have q := KK3.out w' hSw; go_simp; try with_reducible rfl)
  try simp only [aS]
  refine tt 1 40 J0 ?_ (hy := by intro w' hSw; have r6 := FT.out w'; go_simp; try with_reducible rfl)
  try simp only [aS]
  refine tt 2 41 J0 ?_ (hy := by intro w' hSw; have r6 := FT.out w'; have r7 := FI.out w'; have q := KK3.out w' hSw; go_simp; try with_reducible rfl)
  try simp only [aS]
  refine tt 5 44 J0 ?_ (hy := by intro w' hSw; have r6 := FT.out w'; go_simp; try with_reducible rfl)
  try simp only [aS]
  refine tt 6 45 J0 ?_ (hy := by intro w' hSw; have r6 := FT.out w'; have r7 := FI.out w'; have q := KK3.out w' hSw; go_simp; try with_reducible rfl)
  try simp only [aS]
  refine oneT (i := 3) (by kernel_rfl) rfl (fun K hK => ?_)
  go_simp
  refine (CR2.out _ (BelS.b J0)).mono ?_
  rintro e wq ⟨rfl, bq⟩
  have J1 := J0.below bq
  have EQ := Lib.hid (ED.out.below (Below.mono J1 (Nat.le_refl _)))
  have SQ := Lib.hid (SD.out.below J1)
  have y0 := BelS.c J1 g0
  have y1 := (J1.b.frozen (p := ⟨g, 1, none⟩) ED.out.glt).trans g1
  clear bq
  refine hK.out _ _ J1 ?_
  clear hK K
  try simp only [aS]
  refine tt 4 43 J1 ?_ (hy := by intro w' hSw; have r6 := FT.out w'; go_simp; try with_reducible rfl)
  try simp only [aS]
  refine tt 7 46 J1 ?_ (hy := by intro w' hSw; have r6 := FT.out w'; have r7 := FI.out w'; have q := KK3.out w' hSw; go_simp; try with_reducible rfl)
  try simp only [aS]
  refine oneT (i := 8) (by kernel_rfl) rfl (fun K hK => ?_)
  go_simp
  refine hK.out _ _ J1 ?_
  clear hK K
  try simp only [aS]
  refine tt 9 48 J1 ?_ (hy := by intro w' hSw; have r6 := FT.out w'; go_simp; try with_reducible rfl)
  try simp only [aS]
  refine lastT (by kernel_rfl) rfl (fun K hK => ?_)
  go_simp
  refine hK.out _ _ ?_
  clear hK K
  try simp only [aS]
  refine doneT (by kernel_rfl) ?_ _
  obtain ⟨W7, hW7⟩ : ∃ W7, wq.setCell ⟨g, 1, none⟩ (.int .i64 f6) = W7 := ⟨_, rfl⟩
  have g7 : GrownL [g] wq W7 := by rw [← hW7]; exact GrownL.set _ _ _ (by simp)
  have E7 : Hid (EnR W4 g f5 f6 a1 a2 a3 a4 d1 d2 d3 d4 x y W7) := Lib.hid (by rw [← hW7]; exact (EQ.out.one f6).2)
  have S7 := Lib.hid (SQ.out.grown g7 (by have := HGW.out; simp; omega))
  rw [hW7]
  clear k0 k1 k2 k3 k4 k5 g0 g1 y0 y1 hi1 hi2 J0 J1 hW7 g7 EQ SQ ED SD E6 S6 P6 P6d FT FI HWd CR2
  obtain ⟨Ao1, ko1, rfl, -⟩ := E7.out.o1.form
  obtain ⟨Ao2, ko2, rfl, -⟩ := E7.out.o2.form
  obtain ⟨Ao3, ko3, rfl, -⟩ := E7.out.o3.form
  obtain ⟨Ao4, ko4, rfl, -⟩ := E7.out.o4.form
  obtain ⟨Ap1, kp1, rfl, -⟩ := E7.out.p1.form
  obtain ⟨Ap2, kp2, rfl, -⟩ := E7.out.p2.form
  obtain ⟨Ap3, kp3, rfl, -⟩ := E7.out.p3.form
  obtain ⟨Ap4, kp4, rfl, -⟩ := E7.out.p4.form
  obtain ⟨v0, t0⟩ := Option.isSome_iff_exists.1 (S7.out.th 0 (by decide)).1
  have z0 := (S7.out.th 0 (by decide)).2
  obtain ⟨v1, t1⟩ := Option.isSome_iff_exists.1 (S7.out.th 1 (by decide)).1
  have z1 := (S7.out.th 1 (by decide)).2
  obtain ⟨v2, t2⟩ := Option.isSome_iff_exists.1 (S7.out.th 2 (by decide)).1
  have z2 := (S7.out.th 2 (by decide)).2
  obtain ⟨v3, t3⟩ := Option.isSome_iff_exists.1 (S7.out.th 3 (by decide)).1
  have z3 := (S7.out.th 3 (by decide)).2
  obtain ⟨v4, t4⟩ := Option.isSome_iff_exists.1 (S7.out.th 4 (by decide)).1
  have z4 := (S7.out.th 4 (by decide)).2
  obtain ⟨v5, t5⟩ := Option.isSome_iff_exists.1 (S7.out.th 5 (by decide)).1
  have z5 := (S7.out.th 5 (by decide)).2
  obtain ⟨v6, t6⟩ := Option.isSome_iff_exists.1 (S7.out.th 6 (by decide)).1
  have z6 := (S7.out.th 6 (by decide)).2
  obtain ⟨v7, t7⟩ := Option.isSome_iff_exists.1 (S7.out.th 7 (by decide)).1
  have z7 := (S7.out.th 7 (by decide)).2
  obtain ⟨v8, t8⟩ := Option.isSome_iff_exists.1 (S7.out.th 8 (by decide)).1
  have z8 := (S7.out.th 8 (by decide)).2
  obtain ⟨v9, t9⟩ := Option.isSome_iff_exists.1 (S7.out.th 9 (by decide)).1
  have z9 := (S7.out.th 9 (by decide)).2
  simp only [Nat.zero_add] at t0 z0 t1 z1 t2 z2 t3 z3 t4 z4 t5 z5 t6 z6 t7 z7 t8 z8 t9 z9
  have c0 := E7.out.r 0 _ rfl
  have c1 := E7.out.r 1 _ rfl
  have c2 := E7.out.r 2 _ rfl
  have c3 := E7.out.r 3 _ rfl
  have c4 := E7.out.r 4 _ rfl
  have c5 := E7.out.r 5 _ rfl
  have c6 := E7.out.r 6 _ rfl
  have c7 := E7.out.r 7 _ rfl
  have c8 := E7.out.r 8 _ rfl
  have c9 := E7.out.r 9 _ rfl
  simp only [Nat.zero_add] at c0 c1 c2 c3 c4 c5 c6 c7 c8 c9
  go_wp2_with fail
  clear c0 t0 z0 c1 t1 z1 c2 t2 z2 c3 t3 z3 c4 t4 z4 c5 t5 z5 c6 t6 z6 c7 t7 z7 c8 t8 z8 c9 t9 z9
  obtain ⟨W8, hW8⟩ : ∃ W8, ((((((((((W7.setCell ⟨w.heap.size + 1 + 1, 0, none⟩ (.int .i64 f5)).setCell ⟨w.heap.size + 1 + 1, 1, none⟩ (.int .i64 f6)).setCell ⟨w.heap.size + 1 + 1, 2, none⟩ (.slice Ao1 x.river.length ko1)).setCell ⟨w.heap.size + 1 + 1, 3, none⟩ (.slice Ao2 x.boards.length ko2)).setCell ⟨w.heap.size + 1 + 1, 4, none⟩ (.slice Ao3 x.leaks.length ko3)).setCell ⟨w.heap.size + 1 + 1, 5, none⟩ (.slice Ao4 x.losses.length ko4)).setCell ⟨w.heap.size + 1 + 1, 6, none⟩ (.slice Ap1 y.river.length kp1)).setCell ⟨w.heap.size + 1 + 1, 7, none⟩ (.slice Ap2 y.boards.length kp2)).setCell ⟨w.heap.size + 1 + 1, 8, none⟩ (.slice Ap3 y.leaks.length kp3)).setCell ⟨w.heap.size + 1 + 1, 9, none⟩ (.slice Ap4 y.losses.length kp4)) = W8 := ⟨_, rfl⟩
  have e8 : W7.setCells (w.heap.size + 1 + 1) 0 [.int .i64 f5, .int .i64 f6, .slice Ao1 x.river.length ko1, .slice Ao2 x.boards.length ko2, .slice Ao3 x.leaks.length ko3, .slice Ao4 x.losses.length ko4, .slice Ap1 y.river.length kp1, .slice Ap2 y.boards.length kp2, .slice Ap3 y.leaks.length kp3, .slice Ap4 y.losses.length kp4] = W8 := hW8
  have r8 : W8.rangeAt (w.heap.size + 1 + 1) 0 [.int .i64 f5, .int .i64 f6, .slice Ao1 x.river.length ko1, .slice Ao2 x.boards.length ko2, .slice Ao3 x.leaks.length ko3, .slice Ao4 x.losses.length ko4, .slice Ap1 y.river.length kp1, .slice Ap2 y.boards.length kp2, .slice Ap3 y.leaks.length kp3, .slice Ap4 y.losses.length kp4] := by rw [← e8]; exact World.rangeAt_setCells_same _ _ _ _ S7.out.th
  have g8 : GrownL [w.heap.size + 2] W7 W8 := by rw [← e8]; exact GrownL.setCells _ _ _ _ _ (by simp)
  rw [hW8]
  have c0 := r8 0 _ rfl
  have c1 := r8 1 _ rfl
  have c2 := r8 2 _ rfl
  have c3 := r8 3 _ rfl
  have c4 := r8 4 _ rfl
  have c5 := r8 5 _ rfl
  have c6 := r8 6 _ rfl
  have c7 := r8 7 _ rfl
  have c8 := r8 8 _ rfl
  have c9 := r8 9 _ rfl
  simp only [Nat.zero_add] at c0 c1 c2 c3 c4 c5 c6 c7 c8 c9
  have HV : Hid (f5 = flE ws s id i 1 ∧ f6 = flE ws s id i (-1)) := Lib.hid ⟨by rw [← HFV5.out, ← HFF5.out]; exact HXY.out.2.2.1, by rw [← HFV6.out, ← HFF6.out]; exact HXY.out.2.2.2.1⟩
  have nb : ∀ b, W4.heap.size ≤ b → b ∉ [w.heap.size + 2] := fun b hb hm => by have := Z4.out; have := Z2.out; simp at hm; omega
  have E8 := E7.out.reads g8 nb HXY.out HW.out
  have Z4' := Z4.out
  have Z2' := Z2.out
  have GB := S7.out.bel.trans (g8.below (B := w.heap.size) (by simp) S7.out.bel.size)
  refine bodyPost_ret (v := .agg #[.int .i64 f5, .int .i64 f6, .slice Ao1 x.river.length ko1, .slice Ao2 x.boards.length ko2, .slice Ao3 x.leaks.length ko3, .slice Ao4 x.losses.length ko4, .slice Ap1 y.river.length kp1, .slice Ap2 y.boards.length kp2, .slice Ap3 y.leaks.length kp3, .slice Ap4 y.losses.length kp4]) (by simp [results, Try.results83, go_sem, c0, c1, c2, c3, c4, c5, c6, c7, c8, c9]) rfl ⟨_, _, _, _, _, _, _, _, by rw [HV.out.1, HV.out.2], ?_, ?_, GB⟩
  ·rw [HXY.out.2.2.2.2.1]; exact E8.1.low (by have := Z4.out; have := Z2.out; omega)
  ·rw [HXY.out.2.2.2.2.2]; exact E8.2.low (by have := Z4.out; have := Z2.out; omega)
end Go.Proofs.Ytkoacclbempmdaa
