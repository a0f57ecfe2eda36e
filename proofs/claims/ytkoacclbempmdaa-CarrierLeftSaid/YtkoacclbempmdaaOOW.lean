/- The check of the chapter's examples answers true: what every law of the layer wants. -/
import Derived.Test.YtkoacclbempmdaaGZF
namespace Go.Proofs.Ytkoacclbempmdaa
open Go.RowKit
attribute [local go_sem] Oper.semAt_some

/-- A supply that the check keeps: its flow, its lesser water. -/
structure SanX (W0 : World) (g : Nat) (lo hi : Int) (a1 a2 a3 a4 : Value) (x : Wa) (W : World) : Prop where
 bel : Below W0.heap.size W0 W
 glt : g < W.heap.size
 c0 : W.cell? ⟨g, 0, none⟩ = some (.int .i64 lo)
 c1 : W.cell? ⟨g, 1, none⟩ = some (.int .i64 hi)
 c2 : W.cell? ⟨g, 2, none⟩ = some a1
 c3 : W.cell? ⟨g, 3, none⟩ = some a2
 c4 : W.cell? ⟨g, 4, none⟩ = some a3
 c5 : W.cell? ⟨g, 5, none⟩ = some a4
 r : RWa W.heap.size (.agg #[a1, a2, a3, a4]) x W
theorem SanX.below {W0 W W' : World} {g : Nat} {lo hi : Int} {a1 a2 a3 a4 : Value} {x : Wa} (h : SanX W0 g lo hi a1 a2 a3 a4 x W) (hb : Below W.heap.size W W') : SanX W0 g lo hi a1 a2 a3 a4 x W' :=
 ⟨h.bel.trans (hb.mono h.bel.size), Nat.lt_of_lt_of_le h.glt hb.size, BelS.c hb h.c0, BelS.c hb h.c1, BelS.c hb h.c2, BelS.c hb h.c3, BelS.c hb h.c4, BelS.c hb h.c5, h.r.up hb.size hb⟩
theorem OW.parts {base : Nat} {a1 a2 a3 a4 : Value} {x : Wa} {W : World} (h : OW base (.agg #[a1, a2, a3, a4]) x W) : OwnG encI 1 3 base a1 x.river W ∧ OwnG encI 1 3 base a2 x.boards W ∧ OwnG encI 1 3 base a3 x.leaks W ∧ OwnG encI 1 3 base a4 x.losses W ∧ x.river.length ≤ 1000 ∧ x.boards.length ≤ 1000 ∧ x.leaks.length ≤ 1000 ∧ x.losses.length ≤ 1000 := by
 obtain ⟨a, b, c, d, e, h⟩ := h
 simp only [Value.agg.injEq, Array.mk.injEq, List.cons.injEq, and_true] at e
 obtain ⟨rfl, rfl, rfl, rfl⟩ := e
 exact h
/-- It is made by a store into a block that none of its lists lies in. -/
theorem SanX.make {W0 W : World} {g base base' : Nat} {lo hi : Int} {a1 a2 a3 a4 d1 d2 d3 d4 : Value} {x y : Wa} (bel : Below W0.heap.size W0 W) (ge : W0.heap.size ≤ g) (th : W.there g 0 10) (ha : OW base (.agg #[a1, a2, a3, a4]) x W) (hd : OW base' (.agg #[d1, d2, d3, d4]) y W)
  (hn : (∀ v ∈ [a1, a2, a3, a4, d1, d2, d3, d4], v.ownBlock ≠ some g)) :
  ∃ W', (Instr.storeAt 50 (.pointer (some ⟨g, 0, none⟩)) (.agg #[.int .i64 lo, .int .i64 hi, a1, a2, a3, a4, d1, d2, d3, d4])).run Try.prog W = .ok () W' ∧ Below W0.heap.size W0 W' ∧ SanX W0 g lo hi a1 a2 a3 a4 x W' := by
 obtain ⟨o1, o2, o3, o4, l1, l2, l3, l4⟩ := ha.parts
 obtain ⟨p1, p2, p3, p4, -⟩ := hd.parts
 have one : (#[.int .i64 lo, .int .i64 hi, a1, a2, a3, a4, d1, d2, d3, d4] : Array Value).all (·.oneCell') = true := all_oneCell_toArray (cs := [.int .i64 lo, .int .i64 hi, a1, a2, a3, a4, d1, d2, d3, d4]) (fun v hv => by
  simp only [List.mem_cons, List.not_mem_nil, or_false] at hv
  rcases hv with rfl | rfl | rfl | rfl | rfl | rfl | rfl | rfl | rfl | rfl
  ·rfl
  ·rfl
  ·exact oneG o1
  ·exact oneG o2
  ·exact oneG o3
  ·exact oneG o4
  ·exact oneG p1
  ·exact oneG p2
  ·exact oneG p3
  ·exact oneG p4)
 have RS := run_storeAt_mid (P := Try.prog) W g 0 50 #[.int .i64 lo, .int .i64 hi, a1, a2, a3, a4, d1, d2, d3, d4] th (by kernel_rfl) one
 have gs : GrownL [g] W (W.setCells g 0 [.int .i64 lo, .int .i64 hi, a1, a2, a3, a4, d1, d2, d3, d4]) := GrownL.setCells _ _ _ _ _ (by simp)
 have r := World.rangeAt_setCells_same W g 0 [.int .i64 lo, .int .i64 hi, a1, a2, a3, a4, d1, d2, d3, d4] th
 have bel' := bel.trans (gs.below (by simp; omega) bel.size)
 have ow : ∀ v l, v ∈ [a1, a2, a3, a4, d1, d2, d3, d4] → OwnG encI 1 3 base v l W → l.length ≤ 1000 → RR encI (W.setCells g 0 [.int .i64 lo, .int .i64 hi, a1, a2, a3, a4, d1, d2, d3, d4]).heap.size v l (W.setCells g 0 [.int .i64 lo, .int .i64 hi, a1, a2, a3, a4, d1, d2, d3, d4]) := fun v l hv ho hl => (ho.grown gs (fun b hb hm => by rw [List.mem_singleton] at hm; subst hm; exact hn v hv hb)).rr EI (by omega)
 have c := fun (k : Nat) v (h : ([.int .i64 lo, .int .i64 hi, a1, a2, a3, a4, d1, d2, d3, d4] : List Value)[k]? = some v) => r k v h
 simp only [Nat.zero_add] at c
 exact ⟨_, RS, bel', bel', Nat.lt_of_lt_of_le (there_lt th (by decide)) gs.size, c 0 _ rfl, c 1 _ rfl, c 2 _ rfl, c 3 _ rfl, c 4 _ rfl, c 5 _ rfl, ⟨_, _, _, _, rfl, ow _ _ (by simp) o1 l1, ow _ _ (by simp) o2 l2, ow _ _ (by simp) o3 l3, ow _ _ (by simp) o4 l4⟩⟩
/-- Works that the check holds. -/
structure San (w : World) (g : Nat) (v : Value) (h : Nat) (W : World) : Prop where
 wk : W.cell? ⟨g, 0, none⟩ = some v
 rk : RK W.heap.size v (mWk h) W
 bel : Below w.heap.size w W
theorem San.below {w W W' : World} {g h : Nat} {v : Value} (k : San w g v h W) (hb : Below W.heap.size W W') : San w g v h W' := ⟨BelS.c hb k.wk, k.rk.up hb.size hb, k.bel.trans (hb.mono k.bel.size)⟩

theorem SanX.lift {W0 Wd W : World} {g : Nat} {lo hi : Int} {a1 a2 a3 a4 : Value} {x : Wa} (h : SanX Wd g lo hi a1 a2 a3 a4 x W) (hb : Below W0.heap.size W0 Wd) : SanX W0 g lo hi a1 a2 a3 a4 x W := ⟨hb.trans (h.bel.mono hb.size), h.glt, h.c0, h.c1, h.c2, h.c3, h.c4, h.c5, h.r⟩
theorem own8 {base : Nat} {a1 a2 a3 a4 d1 d2 d3 d4 : Value} {x y : Wa} {W : World} (ha : OW base (.agg #[a1, a2, a3, a4]) x W) (hd : OW base (.agg #[d1, d2, d3, d4]) y W) : ∀ v ∈ [a1, a2, a3, a4, d1, d2, d3, d4], ∀ b, v.ownBlock = some b → base ≤ b ∧ b < W.heap.size := fun v hv b hb => by
 obtain ⟨o1, o2, o3, o4, -⟩ := ha.parts
 obtain ⟨p1, p2, p3, p4, -⟩ := hd.parts
 simp only [List.mem_cons, List.not_mem_nil, or_false] at hv
 rcases hv with rfl | rfl | rfl | rfl | rfl | rfl | rfl | rfl
 ·exact o1.lt b hb
 ·exact o2.lt b hb
 ·exact o3.lt b hb
 ·exact o4.lt b hb
 ·exact p1.lt b hb
 ·exact p2.lt b hb
 ·exact p3.lt b hb
 ·exact p4.lt b hb
theorem rr_lit (W : World) (l : List Int) (hl : Fits l.length) : RR encI (W.alloc (.cells (l.map fun n => .int .i64 n).toArray 3)).heap.size (.slice (some ⟨W.heap.size, 0, none⟩) l.length l.length) l (W.alloc (.cells (l.map fun n => .int .i64 n).toArray 3)) := by
 have e : ∀ l : List Int, (l.flatMap encI) = l.map fun n => .int .i64 n := fun l => by
  induction l with
  | nil => rfl
  | cons x l ih => rw [List.flatMap_cons, ih]; rfl
 refine ⟨_, _, rfl, hl, fun _ => ⟨W.heap.size, 0, rfl, by simp, fun j u hj => ?_⟩⟩
 rw [cell_of_row _ _ (0 + j) _ _ _ (World.alloc_heap_new W _), Nat.zero_add, List.getElem?_toArray, ← e l]
 exact hj

set_option maxHeartbeats 32000000 in
set_option maxRecDepth 1000000 in
theorem sanity_any (w : World) : Calls Try.prog 20 #[] w fun e w' => e = .returned (.bool true) ∧ Below w.heap.size w w' := by
 go_enter Try.func20, Try.ntmps20
 go_wp2_with fail
 refine (meadow_any _).mono ?_
 rintro e w1 ⟨v, rfl, hrk, b1⟩
 obtain ⟨Av, cv, rfl⟩ := hrk.slice
 obtain ⟨h, hh⟩ : ∃ h, w.heap.size = h := ⟨_, rfl⟩
 rw [hh] at hrk
 obtain ⟨nv, hnv⟩ : ∃ nv, (mWk h).length = nv := ⟨_, rfl⟩
 rw [hnv] at hrk
 obtain ⟨W1, hW1⟩ : ∃ W1, w1.alloc (.cells #[.slice Av nv cv] 24) = W1 := ⟨_, rfl⟩
 have b2 : Below w1.heap.size w1 W1 := by rw [← hW1]; exact (Below.refl _ _).alloc (Nat.le_refl _) _
 have S1 : Hid (San w w1.heap.size (.slice Av nv cv) h W1) := Lib.hid ⟨by rw [← hW1]; simp [go_sem], hrk.up b2.size b2, b1.trans (b2.mono b1.size)⟩
 have HH := Lib.hid hh
 have HNV := Lib.hid hnv
 have HW1 := Lib.hid hW1
 rw [hh, hnv]
 clear hrk b1 b2 hh hnv hW1
 go_upto_region 2 with fail
 rw [HW1.out]
 have kw := S1.out.wk
 refine wp_region_held_drew  (S := BelS W1) (by kernel_rfl) (BelS.drew0 _) (fun J0 => ?_)
 refine tw 0 22 J0 ?_ (hy := by intro w' hSw; have q0 := hSw.c kw; go_simp; try with_reducible rfl)
 try simp only [aS]
 refine wpAnyH_ready (rs := [1]) (by kernel_rfl) (by simp) ?_
 refine AllReadyH.cons rfl (fun K hK => ?_) AllReadyH.nil
 go_simp
 refine ((now_any _)).mono ?_
 rintro e wa_2 ⟨xv, rfl, hx, hq1⟩
 have J01 := J0.below hq1
 clear hq1
 refine hK.out _ _ J01 (fun _ => ?_)
 clear hK
 try simp only [aS]
 refine wpAnyH_ready (rs := [2]) (by kernel_rfl) (by simp) ?_
 refine AllReadyH.cons rfl (fun K hK => ?_) AllReadyH.nil
 go_simp
 refine (Flow_any _ xv (mWk h) mWa 0 _ (S1.out.rk.up (BelS.b J01).size (BelS.b J01)) (by rw [mTot]; decide) hx (mWat h)).mono ?_
 rintro e w_2 ⟨uf, rfl, hof, hq2⟩
 have J02 := J01.below hq2
 rw [mThr, okL_zero] at hof
 clear hq2
 refine hK.out _ _ J02 (fun _ => ?_)
 clear hK
 try simp only [aS]
 refine tw 3 21 J02 ?_ (hy := by intro w' hSw; have q0 := hSw.c kw; go_simp; try with_reducible rfl)
 try simp only [aS]
 refine tw 4 25 J02 ?_ (hy := by intro w' hSw; have q0 := hSw.c kw; go_simp; try with_reducible rfl)
 try simp only [aS]
 refine tw 5 26 J02 ?_ (hy := by intro w' hSw; have q0 := hSw.c kw; go_simp; try with_reducible rfl)
 try simp only [aS]
 refine tw 6 2 J02 ?_ (hy := by intro w' hSw; have q0 := hSw.c kw; go_simp; try with_reducible rfl)
 try simp only [aS]
 refine tw 7 3 J02 ?_ (hy := by intro w' hSw; have q0 := hSw.c kw; go_simp; try with_reducible rfl)
 try simp only [aS]
 refine wpAnyH_done (by kernel_rfl) ?_ _
 have S2 := Lib.hid (S1.out.below (BelS.b J02))
 have RF := Lib.hid (hof.rr EI (by decide))
 clear hof
 clear kw J0 J01 J02 hx
 go_wp2_with fail
 have kw := S2.out.wk
 refine wp_region_held_drew  (S := BelS w_2) (by kernel_rfl) (BelS.drew0 _) (fun J0 => ?_)
 refine tw 0 28 J0 ?_ (hy := by intro w' hSw; have q0 := hSw.c kw; go_simp; try with_reducible rfl)
 try simp only [aS]
 refine wpAnyH_ready (rs := [1]) (by kernel_rfl) (by simp) ?_
 refine AllReadyH.cons rfl (fun K hK => ?_) AllReadyH.nil
 go_simp
 refine ((now_any _)).mono ?_
 rintro e wa_3 ⟨xv, rfl, hx, hq1⟩
 have J01 := J0.below hq1
 clear hq1
 refine hK.out _ _ J01 (fun _ => ?_)
 clear hK
 try simp only [aS]
 refine wpAnyH_ready (rs := [2]) (by kernel_rfl) (by simp) ?_
 refine AllReadyH.cons rfl (fun K hK => ?_) AllReadyH.nil
 go_simp
 refine (Tails_any _ xv (mWk h) mWa 0 _ (S2.out.rk.up (BelS.b J01).size (BelS.b J01)) (by rw [mTot]; decide) hx (mWat h)).mono ?_
 rintro e w_3 ⟨ut, rfl, hot, hq2⟩
 have J02 := J01.below hq2
 rw [mTails, okL_zero] at hot
 clear hq2
 refine hK.out _ _ J02 (fun _ => ?_)
 clear hK
 try simp only [aS]
 refine tw 3 27 J02 ?_ (hy := by intro w' hSw; have q0 := hSw.c kw; go_simp; try with_reducible rfl)
 try simp only [aS]
 refine tw 4 31 J02 ?_ (hy := by intro w' hSw; have q0 := hSw.c kw; go_simp; try with_reducible rfl)
 try simp only [aS]
 refine tw 5 32 J02 ?_ (hy := by intro w' hSw; have q0 := hSw.c kw; go_simp; try with_reducible rfl)
 try simp only [aS]
 refine tw 6 4 J02 ?_ (hy := by intro w' hSw; have q0 := hSw.c kw; go_simp; try with_reducible rfl)
 try simp only [aS]
 refine tw 7 5 J02 ?_ (hy := by intro w' hSw; have q0 := hSw.c kw; go_simp; try with_reducible rfl)
 try simp only [aS]
 refine wpAnyH_done (by kernel_rfl) ?_ _
 have S3 := Lib.hid (S2.out.below (BelS.b J02))
 have RF := Lib.hid (RF.out.up (BelS.b J02).size (BelS.b J02))
 have RT := Lib.hid (hot.rr EI (by decide))
 clear hot
 clear kw J0 J01 J02 hx
 go_wp2_with fail
 have kw := S3.out.wk
 refine wp_region_held_drew  (S := BelS w_3) (by kernel_rfl) (BelS.drew0 _) (fun J0 => ?_)
 refine tw 0 34 J0 ?_ (hy := by intro w' hSw; have q0 := hSw.c kw; go_simp; try with_reducible rfl)
 try simp only [aS]
 refine wpAnyH_ready (rs := [1]) (by kernel_rfl) (by simp) ?_
 refine AllReadyH.cons rfl (fun K hK => ?_) AllReadyH.nil
 go_simp
 refine ((now_any _)).mono ?_
 rintro e wa_4 ⟨xv, rfl, hx, hq1⟩
 have J01 := J0.below hq1
 clear hq1
 refine hK.out _ _ J01 (fun _ => ?_)
 clear hK
 try simp only [aS]
 refine wpAnyH_ready (rs := [2]) (by kernel_rfl) (by simp) ?_
 refine AllReadyH.cons rfl (fun K hK => ?_) AllReadyH.nil
 go_simp
 refine (Lost_any _ xv (mWk h) mWa 0 _ (S3.out.rk.up (BelS.b J01).size (BelS.b J01)) (by rw [mTot]; decide) hx (mWat h)).mono ?_
 rintro e w_4 ⟨rfl, hq2⟩
 have J02 := J01.below hq2
 rw [mLost, okN_zero]
 clear hq2
 refine hK.out _ _ J02 (fun _ => ?_)
 clear hK
 try simp only [aS]
 refine tw 3 33 J02 ?_ (hy := by intro w' hSw; have q0 := hSw.c kw; go_simp; try with_reducible rfl)
 try simp only [aS]
 refine tw 4 37 J02 ?_ (hy := by intro w' hSw; have q0 := hSw.c kw; go_simp; try with_reducible rfl)
 try simp only [aS]
 refine tw 5 38 J02 ?_ (hy := by intro w' hSw; have q0 := hSw.c kw; go_simp; try with_reducible rfl)
 try simp only [aS]
 refine tw 6 6 J02 ?_ (hy := by intro w' hSw; have q0 := hSw.c kw; go_simp; try with_reducible rfl)
 try simp only [aS]
 refine tw 7 7 J02 ?_ (hy := by intro w' hSw; have q0 := hSw.c kw; go_simp; try with_reducible rfl)
 try simp only [aS]
 refine wpAnyH_done (by kernel_rfl) ?_ _
 have S4 := Lib.hid (S3.out.below (BelS.b J02))
 have RF := Lib.hid (RF.out.up (BelS.b J02).size (BelS.b J02))
 have RT := Lib.hid (RT.out.up (BelS.b J02).size (BelS.b J02))
 clear kw J0 J01 J02 hx
 go_upto_region 5 with fail
 go_cut [8, 9] (fun p q wx => ∃ (g : Nat) (a1 a2 a3 a4 : Value), p = .pointer (some ⟨g, 0, none⟩) ∧ q = .int .i64 0 ∧ SanX w_4 g 17 22 a1 a2 a3 a4 (⟨[60], [1, 0, 2, 1], [0, 1, 0, 0], [4, 0, 3, 0]⟩) wx)
 case first =>
  obtain ⟨Wd, hWd⟩ : ∃ Wd, w_4.drew = Wd := ⟨_, rfl⟩
  have bD : Below w_4.heap.size w_4 Wd := by rw [← hWd]; exact (Below.refl _ _).drew
  have SD := Lib.hid (S4.out.below bD)
  have BD := Lib.hid bD
  have kd := SD.out.wk
  have HWd := Lib.hid hWd
  clear hWd bD
  refine wp_region_T 8 (S := BelS Wd) (by kernel_rfl) (by rw [HWd.out]; exact Below.refl _ _) (fun J0 => ?_)
  rw [HWd.out] at J0 ⊢
  refine tt 0 40 J0 ?_ (hy := by intro w' hSw; have r0 := hSw.c kd; go_simp; try with_reducible rfl)
  try simp only [aS]
  refine twoT (i := 1) (j := 6) (by kernel_rfl) rfl rfl (fun K hK => ?_) (fun K hK => ?_)
  ·go_simp
   refine (knownC_any _).mono ?_
   rintro e wq1 ⟨xv, rfl, hx, bq1⟩
   have J1 := J0.below bq1
   clear bq1
   refine hK.out _ _ J1 ?_
   clear hK K
   try simp only [aS]
   refine twoT (i := 2) (j := 6) (by kernel_rfl) rfl rfl (fun K hK => ?_) (fun K hK => ?_)
   ·go_simp
    have hxu := hx
    refine (Ends_any _ xv (mWk h) mCa 4 ((3 : Nat) : Int) 0 _ (SD.out.rk.up (BelS.b J1).size (BelS.b J1)) (by rw [mTot]; decide) hxu (.inr ⟨mCas h, mK4 h⟩) (by decide)).mono ?_
    rintro e wq2 ⟨u, rfl, ⟨a1, a2, a3, a4, d1, d2, d3, d4, rfl, ha, hd⟩, bq2⟩
    rw [Int.toNat_natCast, okN_zero, okN_zero, (mFl4 h).1, (mFl4 h).2]
    rw [show okWa 0 (exW (mWk h) mCa (endE (mWk h) 4) 1) = ⟨[60], [1, 0, 2, 1], [0, 1, 0, 0], [4, 0, 3, 0]⟩ from mLeast h] at ha
    have hsz : wq1.heap.size ≤ wq2.heap.size := bq2.size
    have hbn : ∀ v ∈ [a1, a2, a3, a4, d1, d2, d3, d4], ∀ b, v.ownBlock = some b → wq1.heap.size ≤ b ∧ b < wq2.heap.size := own8 ha hd
    have J2 := J1.below bq2
    clear bq2 hx hxu
    refine hK.out _ _ J2 ?_
    clear hK K
    try simp only [aS]
    refine tt 3 39 J2 ?_
    try simp only [aS]
    refine tt 4 43 J2 ?_
    try simp only [aS]
    refine tt 5 44 J2 ?_
    try simp only [aS]
    refine oneT (i := 6) (by kernel_rfl) rfl (fun K hK => ?_)
    go_simp
    obtain ⟨wq3, hwq3⟩ : ∃ wq3, wq2.alloc (.cells #[.int .i64 0, .int .i64 0, .slice none 0 0, .slice none 0 0, .slice none 0 0, .slice none 0 0, .slice none 0 0, .slice none 0 0, .slice none 0 0, .slice none 0 0] 50) = wq3 := ⟨_, rfl⟩
    have bq3 : Below wq2.heap.size wq2 wq3 := by rw [← hwq3]; exact (Below.refl _ _).alloc (Nat.le_refl _) _
    obtain ⟨g, hge⟩ : ∃ g, wq2.heap.size = g := ⟨_, rfl⟩
    have tg : wq3.there g 0 10 := by rw [← hwq3, ← hge]; exact tenZ _
    have hg : g < wq3.heap.size := there_lt tg (by decide)
    rw [hwq3]
    try rw [hge]
    have hgW : Wd.heap.size ≤ g := by have := Below.size J2; omega
    have J3 := J2.below bq3
    have hn8 : ∀ v ∈ [a1, a2, a3, a4, d1, d2, d3, d4], v.ownBlock ≠ some g := fun v hv hb => by have := (hbn v hv g hb).2; omega
    have ha := ha.below bq3
    have hd := hd.below bq3
    have HH3 := Lib.hid (And.intro hge hwq3)
    clear hge hwq3
    refine hK.out _ _ J3 ?_
    clear hK K
    try simp only [aS]
    refine oneT (i := 7) (by kernel_rfl) rfl (fun K hK => ?_)
    obtain ⟨wq4, RS, JS, HX⟩ := SanX.make (lo := 17) (hi := 22) (BelS.b J3) hgW tg ha hd hn8
    rw [if_pos (by rfl)]
    refine wp_store_run 50 _ _ rfl (u := .pointer (some ⟨g, 0, none⟩)) (v := .agg #[.int .i64 17, .int .i64 22, a1, a2, a3, a4, d1, d2, d3, d4]) rfl rfl RS ?_
    have J4 : BelS Wd wq4 := JS
    have HX := Lib.hid HX
    clear RS JS tg ha hd hn8 hbn
    refine hK.out _ _ J4 ?_
    clear hK K
    try simp only [aS]
    refine lastT (by kernel_rfl) rfl (fun K hK => ?_)
    go_simp
    refine hK.out _ _ ?_
    clear hK K
    try simp only [aS]
    refine doneT (by kernel_rfl) ?_ _
    clear kd J0 J1 J2 J3 J4
    go_wp2_with fail
    go_meet
    exact ⟨g, a1, a2, a3, a4, rfl, rfl, HX.out.lift BD.out⟩
   ·go_simp
    obtain ⟨wq2, hwq2⟩ : ∃ wq2, wq1.alloc (.cells #[.int .i64 0, .int .i64 0, .slice none 0 0, .slice none 0 0, .slice none 0 0, .slice none 0 0, .slice none 0 0, .slice none 0 0, .slice none 0 0, .slice none 0 0] 50) = wq2 := ⟨_, rfl⟩
    have bq2 : Below wq1.heap.size wq1 wq2 := by rw [← hwq2]; exact (Below.refl _ _).alloc (Nat.le_refl _) _
    obtain ⟨g, hge⟩ : ∃ g, wq1.heap.size = g := ⟨_, rfl⟩
    have tg : wq2.there g 0 10 := by rw [← hwq2, ← hge]; exact tenZ _
    have hg : g < wq2.heap.size := there_lt tg (by decide)
    rw [hwq2]
    try rw [hge]
    have hgW : Wd.heap.size ≤ g := by have := Below.size J1; omega
    have J2 := J1.below bq2
    have JX : BelS wq1 wq2 := bq2
    have HH2 := Lib.hid (And.intro hge hwq2)
    clear hge hwq2
    refine hK.out _ _ J2 ?_
    clear hK K
    try simp only [aS]
    refine oneT (i := 2) (by kernel_rfl) rfl (fun K hK => ?_)
    go_simp
    have hxu := hx.up (BelS.b JX).size (BelS.b JX)
    refine (Ends_any _ xv (mWk h) mCa 4 ((3 : Nat) : Int) 0 _ (SD.out.rk.up (BelS.b J2).size (BelS.b J2)) (by rw [mTot]; decide) hxu (.inr ⟨mCas h, mK4 h⟩) (by decide)).mono ?_
    rintro e wq3 ⟨u, rfl, ⟨a1, a2, a3, a4, d1, d2, d3, d4, rfl, ha, hd⟩, bq3⟩
    rw [Int.toNat_natCast, okN_zero, okN_zero, (mFl4 h).1, (mFl4 h).2]
    rw [show okWa 0 (exW (mWk h) mCa (endE (mWk h) 4) 1) = ⟨[60], [1, 0, 2, 1], [0, 1, 0, 0], [4, 0, 3, 0]⟩ from mLeast h] at ha
    have hsz : wq2.heap.size ≤ wq3.heap.size := bq3.size
    have hbn : ∀ v ∈ [a1, a2, a3, a4, d1, d2, d3, d4], ∀ b, v.ownBlock = some b → wq2.heap.size ≤ b ∧ b < wq3.heap.size := own8 ha hd
    have J3 := J2.below bq3
    have tg := there_below tg hg bq3
    have hn8 : ∀ v ∈ [a1, a2, a3, a4, d1, d2, d3, d4], v.ownBlock ≠ some g := fun v hv hb => by have := (hbn v hv g hb).1; omega
    have hg := Nat.lt_of_lt_of_le hg bq3.size
    clear bq3 hx hxu
    refine hK.out _ _ J3 ?_
    clear hK K
    try simp only [aS]
    refine tt 3 39 J3 ?_
    try simp only [aS]
    refine tt 4 43 J3 ?_
    try simp only [aS]
    refine tt 5 44 J3 ?_
    try simp only [aS]
    refine oneT (i := 7) (by kernel_rfl) rfl (fun K hK => ?_)
    obtain ⟨wq4, RS, JS, HX⟩ := SanX.make (lo := 17) (hi := 22) (BelS.b J3) hgW tg ha hd hn8
    rw [if_pos (by rfl)]
    refine wp_store_run 50 _ _ rfl (u := .pointer (some ⟨g, 0, none⟩)) (v := .agg #[.int .i64 17, .int .i64 22, a1, a2, a3, a4, d1, d2, d3, d4]) rfl rfl RS ?_
    have J4 : BelS Wd wq4 := JS
    have HX := Lib.hid HX
    clear RS JS tg ha hd hn8 hbn
    refine hK.out _ _ J4 ?_
    clear hK K
    try simp only [aS]
    refine lastT (by kernel_rfl) rfl (fun K hK => ?_)
    go_simp
    refine hK.out _ _ ?_
    clear hK K
    try simp only [aS]
    refine doneT (by kernel_rfl) ?_ _
    clear kd J0 J1 J2 J3 J4
    go_wp2_with fail
    go_meet
    exact ⟨g, a1, a2, a3, a4, rfl, rfl, HX.out.lift BD.out⟩
  ·go_simp
   obtain ⟨wq1, hwq1⟩ : ∃ wq1, Wd.alloc (.cells #[.int .i64 0, .int .i64 0, .slice none 0 0, .slice none 0 0, .slice none 0 0, .slice none 0 0, .slice none 0 0, .slice none 0 0, .slice none 0 0, .slice none 0 0] 50) = wq1 := ⟨_, rfl⟩
   have bq1 : Below Wd.heap.size Wd wq1 := by rw [← hwq1]; exact (Below.refl _ _).alloc (Nat.le_refl _) _
   obtain ⟨g, hge⟩ : ∃ g, Wd.heap.size = g := ⟨_, rfl⟩
   have tg : wq1.there g 0 10 := by rw [← hwq1, ← hge]; exact tenZ _
   have hg : g < wq1.heap.size := there_lt tg (by decide)
   rw [hwq1]
   try rw [hge]
   have hgW : Wd.heap.size ≤ g := by have := Below.size J0; omega
   have J1 := J0.below bq1
   have HH1 := Lib.hid (And.intro hge hwq1)
   clear hge hwq1
   refine hK.out _ _ J1 ?_
   clear hK K
   try simp only [aS]
   refine oneT (i := 1) (by kernel_rfl) rfl (fun K hK => ?_)
   go_simp
   refine (knownC_any _).mono ?_
   rintro e wq2 ⟨xv, rfl, hx, bq2⟩
   have J2 := J1.below bq2
   have tg := there_below tg hg bq2
   have hg := Nat.lt_of_lt_of_le hg bq2.size
   clear bq2
   refine hK.out _ _ J2 ?_
   clear hK K
   try simp only [aS]
   refine oneT (i := 2) (by kernel_rfl) rfl (fun K hK => ?_)
   go_simp
   have hxu := hx
   refine (Ends_any _ xv (mWk h) mCa 4 ((3 : Nat) : Int) 0 _ (SD.out.rk.up (BelS.b J2).size (BelS.b J2)) (by rw [mTot]; decide) hxu (.inr ⟨mCas h, mK4 h⟩) (by decide)).mono ?_
   rintro e wq3 ⟨u, rfl, ⟨a1, a2, a3, a4, d1, d2, d3, d4, rfl, ha, hd⟩, bq3⟩
   rw [Int.toNat_natCast, okN_zero, okN_zero, (mFl4 h).1, (mFl4 h).2]
   rw [show okWa 0 (exW (mWk h) mCa (endE (mWk h) 4) 1) = ⟨[60], [1, 0, 2, 1], [0, 1, 0, 0], [4, 0, 3, 0]⟩ from mLeast h] at ha
   have hsz : wq2.heap.size ≤ wq3.heap.size := bq3.size
   have hbn : ∀ v ∈ [a1, a2, a3, a4, d1, d2, d3, d4], ∀ b, v.ownBlock = some b → wq2.heap.size ≤ b ∧ b < wq3.heap.size := own8 ha hd
   have J3 := J2.below bq3
   have tg := there_below tg hg bq3
   have hn8 : ∀ v ∈ [a1, a2, a3, a4, d1, d2, d3, d4], v.ownBlock ≠ some g := fun v hv hb => by have := (hbn v hv g hb).1; omega
   have hg := Nat.lt_of_lt_of_le hg bq3.size
   clear bq3 hx hxu
   refine hK.out _ _ J3 ?_
   clear hK K
   try simp only [aS]
   refine tt 3 39 J3 ?_
   try simp only [aS]
   refine tt 4 43 J3 ?_
   try simp only [aS]
   refine tt 5 44 J3 ?_
   try simp only [aS]
   refine oneT (i := 7) (by kernel_rfl) rfl (fun K hK => ?_)
   obtain ⟨wq4, RS, JS, HX⟩ := SanX.make (lo := 17) (hi := 22) (BelS.b J3) hgW tg ha hd hn8
   rw [if_pos (by rfl)]
   refine wp_store_run 50 _ _ rfl (u := .pointer (some ⟨g, 0, none⟩)) (v := .agg #[.int .i64 17, .int .i64 22, a1, a2, a3, a4, d1, d2, d3, d4]) rfl rfl RS ?_
   have J4 : BelS Wd wq4 := JS
   have HX := Lib.hid HX
   clear RS JS tg ha hd hn8 hbn
   refine hK.out _ _ J4 ?_
   clear hK K
   try simp only [aS]
   refine lastT (by kernel_rfl) rfl (fun K hK => ?_)
   go_simp
   refine hK.out _ _ ?_
   clear hK K
   try simp only [aS]
   refine doneT (by kernel_rfl) ?_ _
   clear kd J0 J1 J2 J3 J4
   go_wp2_with fail
   go_meet
   exact ⟨g, a1, a2, a3, a4, rfl, rfl, HX.out.lift BD.out⟩
 obtain ⟨xg, x1, x2, x3, x4, rfl, rfl, hX⟩ := hcut
 have S5 := Lib.hid (S4.out.below hX.bel)
 have RF := Lib.hid (RF.out.up hX.bel.size hX.bel)
 have RT := Lib.hid (RT.out.up hX.bel.size hX.bel)
 have xX := Lib.hid hX
 clear hX
 obtain ⟨w_5, hw_5⟩ : ∃ W, wc = W := ⟨_, rfl⟩
 subst hw_5
 go_upto_region 6 with fail
 go_cut [10, 11] (fun p q wx => ∃ (g : Nat) (a1 a2 a3 a4 : Value), p = .pointer (some ⟨g, 0, none⟩) ∧ q = .int .i64 0 ∧ SanX wc g 0 31 a1 a2 a3 a4 (okWa 0 (exW (mWk h) mCa (endE (mWk h) 2) 1)) wx)
 case first =>
  obtain ⟨Wd, hWd⟩ : ∃ Wd, wc.drew = Wd := ⟨_, rfl⟩
  have bD : Below wc.heap.size wc Wd := by rw [← hWd]; exact (Below.refl _ _).drew
  have SD := Lib.hid (S5.out.below bD)
  have BD := Lib.hid bD
  have kd := SD.out.wk
  have HWd := Lib.hid hWd
  clear hWd bD
  refine wp_region_T 8 (S := BelS Wd) (by kernel_rfl) (by rw [HWd.out]; exact Below.refl _ _) (fun J0 => ?_)
  rw [HWd.out] at J0 ⊢
  refine tt 0 46 J0 ?_ (hy := by intro w' hSw; have r0 := hSw.c kd; go_simp; try with_reducible rfl)
  try simp only [aS]
  refine twoT (i := 1) (j := 6) (by kernel_rfl) rfl rfl (fun K hK => ?_) (fun K hK => ?_)
  ·go_simp
   refine (knownC_any _).mono ?_
   rintro e wq1 ⟨xv, rfl, hx, bq1⟩
   have J1 := J0.below bq1
   clear bq1
   refine hK.out _ _ J1 ?_
   clear hK K
   try simp only [aS]
   refine twoT (i := 2) (j := 6) (by kernel_rfl) rfl rfl (fun K hK => ?_) (fun K hK => ?_)
   ·go_simp
    have hxu := hx
    refine (Ends_any _ xv (mWk h) mCa 2 ((1 : Nat) : Int) 0 _ (SD.out.rk.up (BelS.b J1).size (BelS.b J1)) (by rw [mTot]; decide) hxu (.inr ⟨mCas h, mK2 h⟩) (by decide)).mono ?_
    rintro e wq2 ⟨u, rfl, ⟨a1, a2, a3, a4, d1, d2, d3, d4, rfl, ha, hd⟩, bq2⟩
    rw [Int.toNat_natCast, okN_zero, okN_zero, (mFl2 h).1, (mFl2 h).2]
    skip
    have hsz : wq1.heap.size ≤ wq2.heap.size := bq2.size
    have hbn : ∀ v ∈ [a1, a2, a3, a4, d1, d2, d3, d4], ∀ b, v.ownBlock = some b → wq1.heap.size ≤ b ∧ b < wq2.heap.size := own8 ha hd
    have J2 := J1.below bq2
    clear bq2 hx hxu
    refine hK.out _ _ J2 ?_
    clear hK K
    try simp only [aS]
    refine tt 3 45 J2 ?_
    try simp only [aS]
    refine tt 4 49 J2 ?_
    try simp only [aS]
    refine tt 5 50 J2 ?_
    try simp only [aS]
    refine oneT (i := 6) (by kernel_rfl) rfl (fun K hK => ?_)
    go_simp
    obtain ⟨wq3, hwq3⟩ : ∃ wq3, wq2.alloc (.cells #[.int .i64 0, .int .i64 0, .slice none 0 0, .slice none 0 0, .slice none 0 0, .slice none 0 0, .slice none 0 0, .slice none 0 0, .slice none 0 0, .slice none 0 0] 50) = wq3 := ⟨_, rfl⟩
    have bq3 : Below wq2.heap.size wq2 wq3 := by rw [← hwq3]; exact (Below.refl _ _).alloc (Nat.le_refl _) _
    obtain ⟨g, hge⟩ : ∃ g, wq2.heap.size = g := ⟨_, rfl⟩
    have tg : wq3.there g 0 10 := by rw [← hwq3, ← hge]; exact tenZ _
    have hg : g < wq3.heap.size := there_lt tg (by decide)
    rw [hwq3]
    try rw [hge]
    have hgW : Wd.heap.size ≤ g := by have := Below.size J2; omega
    have J3 := J2.below bq3
    have hn8 : ∀ v ∈ [a1, a2, a3, a4, d1, d2, d3, d4], v.ownBlock ≠ some g := fun v hv hb => by have := (hbn v hv g hb).2; omega
    have ha := ha.below bq3
    have hd := hd.below bq3
    have HH3 := Lib.hid (And.intro hge hwq3)
    clear hge hwq3
    refine hK.out _ _ J3 ?_
    clear hK K
    try simp only [aS]
    refine oneT (i := 7) (by kernel_rfl) rfl (fun K hK => ?_)
    obtain ⟨wq4, RS, JS, HX⟩ := SanX.make (lo := 0) (hi := 31) (BelS.b J3) hgW tg ha hd hn8
    rw [if_pos (by rfl)]
    refine wp_store_run 50 _ _ rfl (u := .pointer (some ⟨g, 0, none⟩)) (v := .agg #[.int .i64 0, .int .i64 31, a1, a2, a3, a4, d1, d2, d3, d4]) rfl rfl RS ?_
    have J4 : BelS Wd wq4 := JS
    have HX := Lib.hid HX
    clear RS JS tg ha hd hn8 hbn
    refine hK.out _ _ J4 ?_
    clear hK K
    try simp only [aS]
    refine lastT (by kernel_rfl) rfl (fun K hK => ?_)
    go_simp
    refine hK.out _ _ ?_
    clear hK K
    try simp only [aS]
    refine doneT (by kernel_rfl) ?_ _
    clear kd J0 J1 J2 J3 J4
    go_wp2_with fail
    go_meet
    exact ⟨g, a1, a2, a3, a4, rfl, rfl, HX.out.lift BD.out⟩
   ·go_simp
    obtain ⟨wq2, hwq2⟩ : ∃ wq2, wq1.alloc (.cells #[.int .i64 0, .int .i64 0, .slice none 0 0, .slice none 0 0, .slice none 0 0, .slice none 0 0, .slice none 0 0, .slice none 0 0, .slice none 0 0, .slice none 0 0] 50) = wq2 := ⟨_, rfl⟩
    have bq2 : Below wq1.heap.size wq1 wq2 := by rw [← hwq2]; exact (Below.refl _ _).alloc (Nat.le_refl _) _
    obtain ⟨g, hge⟩ : ∃ g, wq1.heap.size = g := ⟨_, rfl⟩
    have tg : wq2.there g 0 10 := by rw [← hwq2, ← hge]; exact tenZ _
    have hg : g < wq2.heap.size := there_lt tg (by decide)
    rw [hwq2]
    try rw [hge]
    have hgW : Wd.heap.size ≤ g := by have := Below.size J1; omega
    have J2 := J1.below bq2
    have JX : BelS wq1 wq2 := bq2
    have HH2 := Lib.hid (And.intro hge hwq2)
    clear hge hwq2
    refine hK.out _ _ J2 ?_
    clear hK K
    try simp only [aS]
    refine oneT (i := 2) (by kernel_rfl) rfl (fun K hK => ?_)
    go_simp
    have hxu := hx.up (BelS.b JX).size (BelS.b JX)
    refine (Ends_any _ xv (mWk h) mCa 2 ((1 : Nat) : Int) 0 _ (SD.out.rk.up (BelS.b J2).size (BelS.b J2)) (by rw [mTot]; decide) hxu (.inr ⟨mCas h, mK2 h⟩) (by decide)).mono ?_
    rintro e wq3 ⟨u, rfl, ⟨a1, a2, a3, a4, d1, d2, d3, d4, rfl, ha, hd⟩, bq3⟩
    rw [Int.toNat_natCast, okN_zero, okN_zero, (mFl2 h).1, (mFl2 h).2]
    skip
    have hsz : wq2.heap.size ≤ wq3.heap.size := bq3.size
    have hbn : ∀ v ∈ [a1, a2, a3, a4, d1, d2, d3, d4], ∀ b, v.ownBlock = some b → wq2.heap.size ≤ b ∧ b < wq3.heap.size := own8 ha hd
    have J3 := J2.below bq3
    have tg := there_below tg hg bq3
    have hn8 : ∀ v ∈ [a1, a2, a3, a4, d1, d2, d3, d4], v.ownBlock ≠ some g := fun v hv hb => by have := (hbn v hv g hb).1; omega
    have hg := Nat.lt_of_lt_of_le hg bq3.size
    clear bq3 hx hxu
    refine hK.out _ _ J3 ?_
    clear hK K
    try simp only [aS]
    refine tt 3 45 J3 ?_
    try simp only [aS]
    refine tt 4 49 J3 ?_
    try simp only [aS]
    refine tt 5 50 J3 ?_
    try simp only [aS]
    refine oneT (i := 7) (by kernel_rfl) rfl (fun K hK => ?_)
    obtain ⟨wq4, RS, JS, HX⟩ := SanX.make (lo := 0) (hi := 31) (BelS.b J3) hgW tg ha hd hn8
    rw [if_pos (by rfl)]
    refine wp_store_run 50 _ _ rfl (u := .pointer (some ⟨g, 0, none⟩)) (v := .agg #[.int .i64 0, .int .i64 31, a1, a2, a3, a4, d1, d2, d3, d4]) rfl rfl RS ?_
    have J4 : BelS Wd wq4 := JS
    have HX := Lib.hid HX
    clear RS JS tg ha hd hn8 hbn
    refine hK.out _ _ J4 ?_
    clear hK K
    try simp only [aS]
    refine lastT (by kernel_rfl) rfl (fun K hK => ?_)
    go_simp
    refine hK.out _ _ ?_
    clear hK K
    try simp only [aS]
    refine doneT (by kernel_rfl) ?_ _
    clear kd J0 J1 J2 J3 J4
    go_wp2_with fail
    go_meet
    exact ⟨g, a1, a2, a3, a4, rfl, rfl, HX.out.lift BD.out⟩
  ·go_simp
   obtain ⟨wq1, hwq1⟩ : ∃ wq1, Wd.alloc (.cells #[.int .i64 0, .int .i64 0, .slice none 0 0, .slice none 0 0, .slice none 0 0, .slice none 0 0, .slice none 0 0, .slice none 0 0, .slice none 0 0, .slice none 0 0] 50) = wq1 := ⟨_, rfl⟩
   have bq1 : Below Wd.heap.size Wd wq1 := by rw [← hwq1]; exact (Below.refl _ _).alloc (Nat.le_refl _) _
   obtain ⟨g, hge⟩ : ∃ g, Wd.heap.size = g := ⟨_, rfl⟩
   have tg : wq1.there g 0 10 := by rw [← hwq1, ← hge]; exact tenZ _
   have hg : g < wq1.heap.size := there_lt tg (by decide)
   rw [hwq1]
   try rw [hge]
   have hgW : Wd.heap.size ≤ g := by have := Below.size J0; omega
   have J1 := J0.below bq1
   have HH1 := Lib.hid (And.intro hge hwq1)
   clear hge hwq1
   refine hK.out _ _ J1 ?_
   clear hK K
   try simp only [aS]
   refine oneT (i := 1) (by kernel_rfl) rfl (fun K hK => ?_)
   go_simp
   refine (knownC_any _).mono ?_
   rintro e wq2 ⟨xv, rfl, hx, bq2⟩
   have J2 := J1.below bq2
   have tg := there_below tg hg bq2
   have hg := Nat.lt_of_lt_of_le hg bq2.size
   clear bq2
   refine hK.out _ _ J2 ?_
   clear hK K
   try simp only [aS]
   refine oneT (i := 2) (by kernel_rfl) rfl (fun K hK => ?_)
   go_simp
   have hxu := hx
   refine (Ends_any _ xv (mWk h) mCa 2 ((1 : Nat) : Int) 0 _ (SD.out.rk.up (BelS.b J2).size (BelS.b J2)) (by rw [mTot]; decide) hxu (.inr ⟨mCas h, mK2 h⟩) (by decide)).mono ?_
   rintro e wq3 ⟨u, rfl, ⟨a1, a2, a3, a4, d1, d2, d3, d4, rfl, ha, hd⟩, bq3⟩
   rw [Int.toNat_natCast, okN_zero, okN_zero, (mFl2 h).1, (mFl2 h).2]
   skip
   have hsz : wq2.heap.size ≤ wq3.heap.size := bq3.size
   have hbn : ∀ v ∈ [a1, a2, a3, a4, d1, d2, d3, d4], ∀ b, v.ownBlock = some b → wq2.heap.size ≤ b ∧ b < wq3.heap.size := own8 ha hd
   have J3 := J2.below bq3
   have tg := there_below tg hg bq3
   have hn8 : ∀ v ∈ [a1, a2, a3, a4, d1, d2, d3, d4], v.ownBlock ≠ some g := fun v hv hb => by have := (hbn v hv g hb).1; omega
   have hg := Nat.lt_of_lt_of_le hg bq3.size
   clear bq3 hx hxu
   refine hK.out _ _ J3 ?_
   clear hK K
   try simp only [aS]
   refine tt 3 45 J3 ?_
   try simp only [aS]
   refine tt 4 49 J3 ?_
   try simp only [aS]
   refine tt 5 50 J3 ?_
   try simp only [aS]
   refine oneT (i := 7) (by kernel_rfl) rfl (fun K hK => ?_)
   obtain ⟨wq4, RS, JS, HX⟩ := SanX.make (lo := 0) (hi := 31) (BelS.b J3) hgW tg ha hd hn8
   rw [if_pos (by rfl)]
   refine wp_store_run 50 _ _ rfl (u := .pointer (some ⟨g, 0, none⟩)) (v := .agg #[.int .i64 0, .int .i64 31, a1, a2, a3, a4, d1, d2, d3, d4]) rfl rfl RS ?_
   have J4 : BelS Wd wq4 := JS
   have HX := Lib.hid HX
   clear RS JS tg ha hd hn8 hbn
   refine hK.out _ _ J4 ?_
   clear hK K
   try simp only [aS]
   refine lastT (by kernel_rfl) rfl (fun K hK => ?_)
   go_simp
   refine hK.out _ _ ?_
   clear hK K
   try simp only [aS]
   refine doneT (by kernel_rfl) ?_ _
   clear kd J0 J1 J2 J3 J4
   go_wp2_with fail
   go_meet
   exact ⟨g, a1, a2, a3, a4, rfl, rfl, HX.out.lift BD.out⟩
 obtain ⟨yg, y1, y2, y3, y4, rfl, rfl, hX⟩ := hcut
 have S6 := Lib.hid (S5.out.below hX.bel)
 have RF := Lib.hid (RF.out.up hX.bel.size hX.bel)
 have RT := Lib.hid (RT.out.up hX.bel.size hX.bel)
 have xX := Lib.hid (xX.out.below hX.bel)
 have yX := Lib.hid hX
 clear hX
 obtain ⟨w_6, hw_6⟩ : ∃ W, wc = W := ⟨_, rfl⟩
 subst hw_6
 go_upto_region 7 with fail
 have kw := S6.out.wk
 refine wp_region_held_drew  (S := BelS wc) (by kernel_rfl) (BelS.drew0 _) (fun J0 => ?_)
 refine tw 0 52 J0 ?_ (hy := by intro w' hSw; have q0 := hSw.c kw; go_simp; try with_reducible rfl)
 try simp only [aS]
 refine wpAnyH_ready (rs := [1]) (by kernel_rfl) (by simp) ?_
 refine AllReadyH.cons rfl (fun K hK => ?_) AllReadyH.nil
 go_simp
 refine ((knownC_any _)).mono ?_
 rintro e wa_7 ⟨xv, rfl, hx, hq1⟩
 have J01 := J0.below hq1
 clear hq1
 refine hK.out _ _ J01 (fun _ => ?_)
 clear hK
 try simp only [aS]
 refine wpAnyH_ready (rs := [2]) (by kernel_rfl) (by simp) ?_
 refine AllReadyH.cons rfl (fun K hK => ?_) AllReadyH.nil
 go_simp
 refine (Rests_any _ xv (mWk h) mCa 4 ((3 : Nat) : Int) 0 _ (S6.out.rk.up (BelS.b J01).size (BelS.b J01)) (by rw [mTot]; decide) hx (.inr ⟨mCas h, mK4 h⟩) (by decide)).mono ?_
 rintro e w_7 ⟨ur, rfl, hor, hq2⟩
 have J02 := J01.below hq2
 rw [okL_zero, Int.toNat_natCast, mRests] at hor
 clear hq2
 refine hK.out _ _ J02 (fun _ => ?_)
 clear hK
 try simp only [aS]
 refine tw 3 51 J02 ?_ (hy := by intro w' hSw; have q0 := hSw.c kw; go_simp; try with_reducible rfl)
 try simp only [aS]
 refine tw 4 55 J02 ?_ (hy := by intro w' hSw; have q0 := hSw.c kw; go_simp; try with_reducible rfl)
 try simp only [aS]
 refine tw 5 56 J02 ?_ (hy := by intro w' hSw; have q0 := hSw.c kw; go_simp; try with_reducible rfl)
 try simp only [aS]
 refine tw 6 12 J02 ?_ (hy := by intro w' hSw; have q0 := hSw.c kw; go_simp; try with_reducible rfl)
 try simp only [aS]
 refine tw 7 13 J02 ?_ (hy := by intro w' hSw; have q0 := hSw.c kw; go_simp; try with_reducible rfl)
 try simp only [aS]
 refine wpAnyH_done (by kernel_rfl) ?_ _
 have S7 := Lib.hid (S6.out.below (BelS.b J02))
 have RF := Lib.hid (RF.out.up (BelS.b J02).size (BelS.b J02))
 have RT := Lib.hid (RT.out.up (BelS.b J02).size (BelS.b J02))
 have xX := Lib.hid (xX.out.below (BelS.b J02))
 have yX := Lib.hid (yX.out.below (BelS.b J02))
 have RR_ := Lib.hid (hor.rr EI (by decide))
 clear hor
 clear kw J0 J01 J02 hx
 go_upto_region 8 with fail
 have kw := S7.out.wk
 refine wp_region_held_drew  (S := BelS w_7) (by kernel_rfl) (BelS.drew0 _) (fun J0 => ?_)
 refine tw 0 58 J0 ?_ (hy := by intro w' hSw; have q0 := hSw.c kw; go_simp; try with_reducible rfl)
 try simp only [aS]
 refine wpAnyH_ready (rs := [1]) (by kernel_rfl) (by simp) ?_
 refine AllReadyH.cons rfl (fun K hK => ?_) AllReadyH.nil
 go_simp
 refine ((now_any _)).mono ?_
 rintro e wa_8 ⟨xv, rfl, hx, hq1⟩
 have J01 := J0.below hq1
 clear hq1
 refine hK.out _ _ J01 (fun _ => ?_)
 clear hK
 try simp only [aS]
 refine wpAnyH_ready (rs := [2]) (by kernel_rfl) (by simp) ?_
 refine AllReadyH.cons rfl (fun K hK => ?_) AllReadyH.nil
 go_simp
 refine (Open_any _ xv (mWk h) mWa 4 21 ((3 : Nat) : Int) 0 _ (S7.out.rk.up (BelS.b J01).size (BelS.b J01)) (by rw [mTot]; decide) hx (.inr (.inr (.inr ⟨mWat h, mK4 h, rfl, rfl⟩)))).mono ?_
 rintro e w_8 ⟨ra, rb, rfl, -, hl, hq2⟩
 have J02 := J01.below hq2
 obtain ⟨rfl, rfl⟩ := mOpen h (hl rfl ⟨3, 1, 1, mO4 h⟩ rfl)
 clear hl
 clear hq2
 refine hK.out _ _ J02 (fun _ => ?_)
 clear hK
 try simp only [aS]
 refine tw 3 57 J02 ?_ (hy := by intro w' hSw; have q0 := hSw.c kw; go_simp; try with_reducible rfl)
 try simp only [aS]
 refine tw 4 61 J02 ?_ (hy := by intro w' hSw; have q0 := hSw.c kw; go_simp; try with_reducible rfl)
 try simp only [aS]
 refine tw 5 62 J02 ?_ (hy := by intro w' hSw; have q0 := hSw.c kw; go_simp; try with_reducible rfl)
 try simp only [aS]
 refine tw 6 14 J02 ?_ (hy := by intro w' hSw; have q0 := hSw.c kw; go_simp; try with_reducible rfl)
 try simp only [aS]
 refine tw 7 15 J02 ?_ (hy := by intro w' hSw; have q0 := hSw.c kw; go_simp; try with_reducible rfl)
 try simp only [aS]
 refine wpAnyH_done (by kernel_rfl) ?_ _
 have S8 := Lib.hid (S7.out.below (BelS.b J02))
 have RF := Lib.hid (RF.out.up (BelS.b J02).size (BelS.b J02))
 have RT := Lib.hid (RT.out.up (BelS.b J02).size (BelS.b J02))
 have xX := Lib.hid (xX.out.below (BelS.b J02))
 have yX := Lib.hid (yX.out.below (BelS.b J02))
 have RR_ := Lib.hid (RR_.out.up (BelS.b J02).size (BelS.b J02))
 clear kw J0 J01 J02 hx
 go_upto_region 9 with fail
 have kw := S8.out.wk
 refine wp_region_held_drew  (S := BelS w_8) (by kernel_rfl) (BelS.drew0 _) (fun J0 => ?_)
 refine tw 0 64 J0 ?_ (hy := by intro w' hSw; have q0 := hSw.c kw; go_simp; try with_reducible rfl)
 try simp only [aS]
 refine wpAnyH_ready (rs := [1]) (by kernel_rfl) (by simp) ?_
 refine AllReadyH.cons rfl (fun K hK => ?_) AllReadyH.nil
 go_simp
 refine ((now_any _)).mono ?_
 rintro e wa_9 ⟨xv, rfl, hx, hq1⟩
 have J01 := J0.below hq1
 clear hq1
 refine hK.out _ _ J01 (fun _ => ?_)
 clear hK
 try simp only [aS]
 refine wpAnyH_ready (rs := [2]) (by kernel_rfl) (by simp) ?_
 refine AllReadyH.cons rfl (fun K hK => ?_) AllReadyH.nil
 go_simp
 refine (Send_any _ xv (mWk h) mWa 4 22 ((3 : Nat) : Int) 0 _ (S8.out.rk.up (BelS.b J01).size (BelS.b J01)) (by rw [mTot]; decide) hx (.inr (.inr (.inr ⟨mWat h, mK4 h, rfl, rfl⟩))) (by decide)).mono ?_
 rintro e w_9 ⟨ra, rb, rfl, -, hl, hq2⟩
 have J02 := J01.below hq2
 have hl := hl rfl
 rw [mHead, Int.toNat_natCast] at hl
 obtain ⟨rfl, rfl⟩ := mSend h hl
 clear hl
 clear hq2
 refine hK.out _ _ J02 (fun _ => ?_)
 clear hK
 try simp only [aS]
 refine tw 3 63 J02 ?_ (hy := by intro w' hSw; have q0 := hSw.c kw; go_simp; try with_reducible rfl)
 try simp only [aS]
 refine tw 4 67 J02 ?_ (hy := by intro w' hSw; have q0 := hSw.c kw; go_simp; try with_reducible rfl)
 try simp only [aS]
 refine tw 5 68 J02 ?_ (hy := by intro w' hSw; have q0 := hSw.c kw; go_simp; try with_reducible rfl)
 try simp only [aS]
 refine tw 6 16 J02 ?_ (hy := by intro w' hSw; have q0 := hSw.c kw; go_simp; try with_reducible rfl)
 try simp only [aS]
 refine tw 7 17 J02 ?_ (hy := by intro w' hSw; have q0 := hSw.c kw; go_simp; try with_reducible rfl)
 try simp only [aS]
 refine wpAnyH_done (by kernel_rfl) ?_ _
 have S9 := Lib.hid (S8.out.below (BelS.b J02))
 have RF := Lib.hid (RF.out.up (BelS.b J02).size (BelS.b J02))
 have RT := Lib.hid (RT.out.up (BelS.b J02).size (BelS.b J02))
 have xX := Lib.hid (xX.out.below (BelS.b J02))
 have yX := Lib.hid (yX.out.below (BelS.b J02))
 have RR_ := Lib.hid (RR_.out.up (BelS.b J02).size (BelS.b J02))
 clear kw J0 J01 J02 hx
 go_wp2_with fail
 obtain ⟨V1, hV1⟩ : ∃ V, w_9.alloc (.cells #[.int .i64 45, .int .i64 31, .int .i64 20, .int .i64 22] 3) = V := ⟨_, rfl⟩
 have bV1 : Below w_9.heap.size w_9 V1 := by rw [← hV1]; exact (Below.refl _ _).alloc (Nat.le_refl _) _
 have L1 : RR encI V1.heap.size (.slice (some ⟨w_9.heap.size, 0, none⟩) 4 4) [45, 31, 20, 22] V1 := by rw [← hV1]; exact rr_lit w_9 [45, 31, 20, 22] (by decide)
 have S10 := Lib.hid (S9.out.below bV1)
 have RF := Lib.hid (RF.out.up (bV1).size bV1)
 have RT := Lib.hid (RT.out.up (bV1).size bV1)
 have xX := Lib.hid (xX.out.below bV1)
 have yX := Lib.hid (yX.out.below bV1)
 have RR_ := Lib.hid (RR_.out.up (bV1).size bV1)
 rw [hV1]
 clear hV1 bV1 hl
 refine (sameInts_any uf _ [45, 31, 20, 22] V1 RF.out L1 (by decide)).mono ?_
 rintro e v1 ⟨rfl, k1⟩
 have S11 := Lib.hid (S10.out.below k1)
 have RF := Lib.hid (RF.out.up (k1).size k1)
 have RT := Lib.hid (RT.out.up (k1).size k1)
 have xX := Lib.hid (xX.out.below k1)
 have yX := Lib.hid (yX.out.below k1)
 have RR_ := Lib.hid (RR_.out.up (k1).size k1)
 obtain ⟨V2, hV2⟩ : ∃ V, v1.alloc (.cells #[.int .i64 12, .int .i64 0] 3) = V := ⟨_, rfl⟩
 have bV2 : Below v1.heap.size v1 V2 := by rw [← hV2]; exact (Below.refl _ _).alloc (Nat.le_refl _) _
 have L2 : RR encI V2.heap.size (.slice (some ⟨v1.heap.size, 0, none⟩) 2 2) [12, 0] V2 := by rw [← hV2]; exact rr_lit v1 [12, 0] (by decide)
 have HV2 := Lib.hid hV2
 have BV2 := Lib.hid bV2
 have HL2 := Lib.hid L2
 clear k1 L1 hV2 bV2 L2
 go_wp2_with fail
 rw [HV2.out]
 have S12 := Lib.hid (S11.out.below BV2.out)
 have RF := Lib.hid (RF.out.up (BV2.out).size BV2.out)
 have RT := Lib.hid (RT.out.up (BV2.out).size BV2.out)
 have xX := Lib.hid (xX.out.below BV2.out)
 have yX := Lib.hid (yX.out.below BV2.out)
 have RR_ := Lib.hid (RR_.out.up (BV2.out).size BV2.out)
 refine (sameInts_any ut _ [12, 0] V2 RT.out HL2.out (by decide)).mono ?_
 rintro e v2 ⟨rfl, k2⟩
 have S13 := Lib.hid (S12.out.below k2)
 have RF := Lib.hid (RF.out.up (k2).size k2)
 have RT := Lib.hid (RT.out.up (k2).size k2)
 have xX := Lib.hid (xX.out.below k2)
 have yX := Lib.hid (yX.out.below k2)
 have RR_ := Lib.hid (RR_.out.up (k2).size k2)
 have xc0 := xX.out.c0
 have xc1 := xX.out.c1
 have xc2 := xX.out.c2
 have xc3 := xX.out.c3
 have xc4 := xX.out.c4
 have xc5 := xX.out.c5
 have yc0 := yX.out.c0
 have yc1 := yX.out.c1
 obtain ⟨X1, p1, X2, p2, X3, p3, X4, p4, eX⟩ := xX.out.r.form
 simp only [Value.agg.injEq, Array.mk.injEq, List.cons.injEq, and_true] at eX
 obtain ⟨rfl, rfl, rfl, rfl⟩ := eX
 clear k2
 obtain ⟨Y0, hY0⟩ : ∃ V, v2.alloc (.cells #[.int .i64 60] 3) = V := ⟨_, rfl⟩
 have bY0 : Below v2.heap.size v2 Y0 := by rw [← hY0]; exact (Below.refl _ _).alloc (Nat.le_refl _) _
 have M0 : RR encI Y0.heap.size (.slice (some ⟨v2.heap.size, 0, none⟩) 1 1) [60] Y0 := by rw [← hY0]; exact rr_lit v2 [60] (by decide)
 obtain ⟨Y1, hY1⟩ : ∃ V, Y0.alloc (.cells #[.int .i64 1, .int .i64 0, .int .i64 2, .int .i64 1] 3) = V := ⟨_, rfl⟩
 have bY1 : Below Y0.heap.size Y0 Y1 := by rw [← hY1]; exact (Below.refl _ _).alloc (Nat.le_refl _) _
 have M1 : RR encI Y1.heap.size (.slice (some ⟨Y0.heap.size, 0, none⟩) 4 4) [1, 0, 2, 1] Y1 := by rw [← hY1]; exact rr_lit Y0 [1, 0, 2, 1] (by decide)
 obtain ⟨Y2, hY2⟩ : ∃ V, Y1.alloc (.cells #[.int .i64 0, .int .i64 1, .int .i64 0, .int .i64 0] 3) = V := ⟨_, rfl⟩
 have bY2 : Below Y1.heap.size Y1 Y2 := by rw [← hY2]; exact (Below.refl _ _).alloc (Nat.le_refl _) _
 have M2 : RR encI Y2.heap.size (.slice (some ⟨Y1.heap.size, 0, none⟩) 4 4) [0, 1, 0, 0] Y2 := by rw [← hY2]; exact rr_lit Y1 [0, 1, 0, 0] (by decide)
 obtain ⟨Y3, hY3⟩ : ∃ V, Y2.alloc (.cells #[.int .i64 4, .int .i64 0, .int .i64 3, .int .i64 0] 3) = V := ⟨_, rfl⟩
 have bY3 : Below Y2.heap.size Y2 Y3 := by rw [← hY3]; exact (Below.refl _ _).alloc (Nat.le_refl _) _
 have M3 : RR encI Y3.heap.size (.slice (some ⟨Y2.heap.size, 0, none⟩) 4 4) [4, 0, 3, 0] Y3 := by rw [← hY3]; exact rr_lit Y2 [4, 0, 3, 0] (by decide)
 have HY := Lib.hid (And.intro hY0 (And.intro hY1 (And.intro hY2 hY3)))
 have B1 := bY1
 have HM : Hid (RR encI Y3.heap.size (.slice (some ⟨v2.heap.size, 0, none⟩) 1 1) [60] Y3 ∧ RR encI Y3.heap.size (.slice (some ⟨Y0.heap.size, 0, none⟩) 4 4) [1, 0, 2, 1] Y3 ∧ RR encI Y3.heap.size (.slice (some ⟨Y1.heap.size, 0, none⟩) 4 4) [0, 1, 0, 0] Y3 ∧ RR encI Y3.heap.size (.slice (some ⟨Y2.heap.size, 0, none⟩) 4 4) [4, 0, 3, 0] Y3) := Lib.hid ⟨((M0.up bY1.size bY1).up bY2.size bY2).up bY3.size bY3, (M1.up bY2.size bY2).up bY3.size bY3, M2.up bY3.size bY3, M3⟩
 have HB3 : Hid (Below v2.heap.size v2 Y3) := Lib.hid (((bY0.trans (bY1.mono bY0.size)).trans (bY2.mono (Nat.le_trans bY0.size bY1.size))).trans (bY3.mono (Nat.le_trans (Nat.le_trans bY0.size bY1.size) bY2.size)))
 have HZ : Hid (Y0.heap.size = v2.heap.size + 1 ∧ Y1.heap.size = v2.heap.size + 1 + 1 ∧ Y2.heap.size = v2.heap.size + 1 + 1 + 1) := Lib.hid (by
  have e0 : Y0.heap.size = v2.heap.size + 1 := by rw [← hY0]; simp
  have e1 : Y1.heap.size = v2.heap.size + 1 + 1 := by rw [← hY1]; simp [e0]
  have e2 : Y2.heap.size = v2.heap.size + 1 + 1 + 1 := by rw [← hY2]; simp [e1]
  exact ⟨e0, e1, e2⟩)
 clear hY0 hY1 hY2 hY3 bY0 bY1 bY2 bY3 M0 M1 M2 M3 B1
 go_wp2_with fail
 have HM2 := HM.out
 rw [HZ.out.1, HZ.out.2.1, HZ.out.2.2] at HM2
 rw [HY.out.1, HY.out.2.1, HY.out.2.2.1, HY.out.2.2.2]
 have S14 := Lib.hid (S13.out.below HB3.out)
 have RF := Lib.hid (RF.out.up (HB3.out).size HB3.out)
 have RT := Lib.hid (RT.out.up (HB3.out).size HB3.out)
 have xX := Lib.hid (xX.out.below HB3.out)
 have yX := Lib.hid (yX.out.below HB3.out)
 have RR_ := Lib.hid (RR_.out.up (HB3.out).size HB3.out)
 obtain ⟨r1, r2, r3, r4⟩ := xX.out.r.parts
 refine (sameWater_any _ _ _ _ _ _ _ _ [60] [1, 0, 2, 1] [0, 1, 0, 0] [4, 0, 3, 0] Y3 r1 r2 r3 r4 HM2.1 HM2.2.1 HM2.2.2.1 HM2.2.2.2 (by decide) (by decide) (by decide) (by decide)).mono ?_
 rintro e v3 ⟨rfl, k3⟩
 have S15 := Lib.hid (S14.out.below k3)
 have RF := Lib.hid (RF.out.up (k3).size k3)
 have RT := Lib.hid (RT.out.up (k3).size k3)
 have xX := Lib.hid (xX.out.below k3)
 have yX := Lib.hid (yX.out.below k3)
 have RR_ := Lib.hid (RR_.out.up (k3).size k3)
 obtain ⟨V4, hV4⟩ : ∃ V, v3.alloc (.cells #[.int .i64 1, .int .i64 3, .int .i64 4] 3) = V := ⟨_, rfl⟩
 have bV4 : Below v3.heap.size v3 V4 := by rw [← hV4]; exact (Below.refl _ _).alloc (Nat.le_refl _) _
 have L4 : RR encI V4.heap.size (.slice (some ⟨v3.heap.size, 0, none⟩) 3 3) [1, 3, 4] V4 := by rw [← hV4]; exact rr_lit v3 [1, 3, 4] (by decide)
 have HV4 := Lib.hid hV4
 have BV4 := Lib.hid bV4
 have HL4 := Lib.hid L4
 clear k3 r1 r2 r3 r4 HM2 hV4 bV4 L4 xc0 xc1 xc2 xc3 xc4 xc5 yc0 yc1
 go_wp2_with fail
 rw [HV4.out]
 have S16 := Lib.hid (S15.out.below BV4.out)
 have RF := Lib.hid (RF.out.up (BV4.out).size BV4.out)
 have RT := Lib.hid (RT.out.up (BV4.out).size BV4.out)
 have xX := Lib.hid (xX.out.below BV4.out)
 have yX := Lib.hid (yX.out.below BV4.out)
 have RR_ := Lib.hid (RR_.out.up (BV4.out).size BV4.out)
 refine (sameInts_any ur _ [1, 3, 4] V4 RR_.out HL4.out (by decide)).mono ?_
 rintro e v4 ⟨rfl, k4⟩
 have S17 := Lib.hid (S16.out.below k4)
 have RF := Lib.hid (RF.out.up (k4).size k4)
 have RT := Lib.hid (RT.out.up (k4).size k4)
 have xX := Lib.hid (xX.out.below k4)
 have yX := Lib.hid (yX.out.below k4)
 have RR_ := Lib.hid (RR_.out.up (k4).size k4)
 clear k4
 go_wp2_with fail
 go_ret
 exact ⟨rfl, S17.out.bel⟩
end Go.Proofs.Ytkoacclbempmdaa
