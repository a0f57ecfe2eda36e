/- Contract of Rests' closure. -/
import Derived.Test.YtkoacclbempmdaaOOL
namespace Go.Proofs.Ytkoacclbempmdaa
open Go.RowKit
attribute [local go_sem] Oper.semAt_some

theorem flat2_set : ∀ (l : List (Int × Int)) (k : Nat) (x : Int × Int), (l.set k x).flatMap enc2 = ((l.flatMap enc2).set (k * 2) (.int .i64 x.1)).set (k * 2 + 1) (.int .i64 x.2)
 | [], _, _ => rfl
 | y :: l, 0, x => rfl
 | y :: l, k + 1, x => by
  show enc2 y ++ (l.set k x).flatMap enc2 = ((enc2 y ++ l.flatMap enc2).set ((k + 1) * 2) _).set ((k + 1) * 2 + 1) _
  rw [flat2_set l k x]
  show [_, _] ++ _ = (([_, _] ++ _).set _ _).set _ _
  rw [show (k + 1) * 2 = k * 2 + 1 + 1 by omega]
  rfl
theorem flat1_set : ∀ (l : List Int) (k : Nat) (x : Int), (l.set k x).flatMap encI = (l.flatMap encI).set k (.int .i64 x)
 | [], _, _ => rfl
 | y :: l, 0, x => rfl
 | y :: l, k + 1, x => by
  show encI y ++ (l.set k x).flatMap encI = (encI y ++ l.flatMap encI).set (k + 1) _
  rw [flat1_set l k x]
  rfl
/-- An element of a list of one's own is written. -/
theorem OwnG.set2 {e : TypeId} {base g n c : Nat} {l : List (Int × Int)} {W : World} (h : OwnG enc2 2 e base (.slice (some ⟨g, 0, none⟩) n c) l W) (hn : n = l.length) (k : Nat) (x : Int × Int) : OwnG enc2 2 e base (.slice (some ⟨g, 0, none⟩) n c) (l.set k x) ((W.setCell ⟨g, k * 2, none⟩ (.int .i64 x.1)).setCell ⟨g, k * 2 + 1, none⟩ (.int .i64 x.2)) := by
 subst hn
 unfold OwnG at h ⊢
 rw [List.length_set, flat2_set]
 exact ((h.stored (k * 2) _).1.stored (k * 2 + 1) _).1
theorem OwnG.set1 {e : TypeId} {base g n c : Nat} {l : List Int} {W : World} (h : OwnG encI 1 e base (.slice (some ⟨g, 0, none⟩) n c) l W) (hn : n = l.length) (k : Nat) (x : Int) : OwnG encI 1 e base (.slice (some ⟨g, 0, none⟩) n c) (l.set k x) (W.setCell ⟨g, k, none⟩ (.int .i64 x)) := by
 subst hn
 unfold OwnG at h ⊢
 rw [List.length_set, flat1_set]
 exact (h.stored k _).1
/-- The same case, but for the board of an outlet, of which nothing is known. -/
def wider (s : Ca) (p : Pl) : Ca := ⟨s.river, s.boards.set p.at_ (0, (p.o.ps.length : Int) - 1)⟩
theorem wider_ok {ws : Wk} {s : Ca} (hw : WOk ws) (h : CaOk ws s) {n : Nat} {p : Pl} (hp : (allP ws)[n]? = some p) : CaOk ws (wider s p) := by
 refine ⟨h.r, by simp [wider, h.b], h.rr, fun i q x hq hx => ?_⟩
 have hat := (allP_inv hp).1
 unfold wider at hx
 simp only at hx
 by_cases e : p.at_ = i
 ·subst e
  rw [List.getElem?_set_self (by rw [h.b, hat]; exact lt_total hp)] at hx
  cases hx
  have : p = q := by rw [← hat] at hp; rw [hp] at hq; cases hq; rfl
  subst this
  have := (hw.ou hp).pl
  rw [spB_iff]
  simp only
  omega
 ·rw [List.getElem?_set_ne e] at hx
  exact h.ob i q x hq hx
/-- Whether the ends are other ones. -/
noncomputable def restB (ws : Wk) (s : Ca) (id : Int) (i : Nat) (lo hi : Int) (p : Pl) : Bool := !(decide (flE ws (wider s p) id i 1 = lo) && decide (flE ws (wider s p) id i (-1) = hi))
/-- What Rests' closure is handed. -/
structure Rs0 (bc bw bi bf : Nat) (v a b : Value) (id lo hi : Int) (W : World) : Prop where
 c0 : W.cell? ⟨bc, 0, none⟩ = some a
 c1 : W.cell? ⟨bc, 1, none⟩ = some b
 w0 : W.cell? ⟨bw, 0, none⟩ = some v
 i0 : W.cell? ⟨bi, 0, none⟩ = some (.int .i64 id)
 f0 : W.cell? ⟨bf, 0, none⟩ = some (.int .i64 lo)
 f1 : W.cell? ⟨bf, 1, none⟩ = some (.int .i64 hi)
theorem Rs0.grown {bc bw bi bf : Nat} {v a b : Value} {id lo hi : Int} {W W' : World} {bs : List Nat} (h : Rs0 bc bw bi bf v a b id lo hi W) (hg : GrownL bs W W') (hn : ∀ k ∈ bs, k ≠ bc ∧ k ≠ bw ∧ k ≠ bi ∧ k ≠ bf) : Rs0 bc bw bi bf v a b id lo hi W' :=
 ⟨hg.cell h.c0 (fun hm => (hn _ hm).1 rfl), hg.cell h.c1 (fun hm => (hn _ hm).1 rfl), hg.cell h.w0 (fun hm => (hn _ hm).2.1 rfl), hg.cell h.i0 (fun hm => (hn _ hm).2.2.1 rfl), hg.cell h.f0 (fun hm => (hn _ hm).2.2.2 rfl), hg.cell h.f1 (fun hm => (hn _ hm).2.2.2 rfl)⟩
theorem Rs0.below {bc bw bi bf : Nat} {v a b : Value} {id lo hi : Int} {W W' : World} (h : Rs0 bc bw bi bf v a b id lo hi W) (hb : Below W.heap.size W W') : Rs0 bc bw bi bf v a b id lo hi W' := h.grown (GrownL.of_below (bs := []) hb) (by simp)
theorem Rs0.lt {bc bw bi bf : Nat} {v a b : Value} {id lo hi : Int} {W : World} (h : Rs0 bc bw bi bf v a b id lo hi W) : bc < W.heap.size ∧ bw < W.heap.size ∧ bi < W.heap.size ∧ bf < W.heap.size := ⟨World.block_lt_of_cell? _ _ h.c0, World.block_lt_of_cell? _ _ h.w0, World.block_lt_of_cell? _ _ h.i0, World.block_lt_of_cell? _ _ h.f0⟩
/-- The wider case in the making. -/
structure Rs1 (W2 : World) (g : Nat) (a v : Value) (l : List (Int × Int)) (W : World) : Prop where
 bel : Below W2.heap.size W2 W
 ge : W2.heap.size ≤ g
 c0 : W.cell? ⟨g, 0, none⟩ = some a
 c1 : W.cell? ⟨g, 1, none⟩ = some v
 o : OwnG enc2 2 40 W2.heap.size v l W
 n : v.ownBlock ≠ some g

theorem sup_flow (f1 f2 : Int) (w : World) {a1 a2 a3 a4 d1 d2 d3 d4 : Value} : (Instr.field 50 (.agg #[.int .i64 f1, .int .i64 f2, a1, a2, a3, a4, d1, d2, d3, d4]) 0).run Try.prog w = .ok (.agg #[.int .i64 f1, .int .i64 f2]) w := by
 have hs : (sizeOf 40).run Try.prog w = .ok 2 w := by kernel_rfl
 unfold Instr.field
 simp [run_underlying Try.underlying50, asAgg, part, isAgg, hs]
theorem twoZ (W : World) : (W.alloc (.cells #[.slice none 0 0, .slice none 0 0] 46)).there W.heap.size 0 2 := fun j hj => by
 match j, hj with
 | 0, _ => exact ⟨by simp [go_sem], by simp [go_sem]⟩
 | 1, _ => exact ⟨by simp [go_sem], by simp [go_sem]⟩
 | j + 2, hj => omega
theorem oneG {α : Type} {enc : α → List Value} {n : Nat} {e : TypeId} {base : Nat} {v : Value} {l : List α} {W : World} (h : OwnG enc n e base v l W) : v.oneCell' = true := by
 obtain ⟨A, c, rfl, -⟩ := h.form
 rfl
theorem Rs1.make {W2 W : World} {g : Nat} {v : Value} {l : List (Int × Int)} (ge : W2.heap.size ≤ g) (bel : Below W2.heap.size W2 W) (th : W.there g 0 2) (o : OwnG enc2 2 40 W2.heap.size v l W) (n : v.ownBlock ≠ some g) (a : Value) : Rs1 W2 g a v l (W.setCells g 0 [a, v]) := by
 have gs : GrownL [g] W (W.setCells g 0 [a, v]) := GrownL.setCells _ _ _ _ _ (by simp)
 have r := World.rangeAt_setCells_same W g 0 [a, v] th
 refine ⟨bel.trans (gs.below (by simp; omega) bel.size), ge, ?_, ?_, o.grown gs (fun b hb hm => by rw [List.mem_singleton] at hm; subst hm; exact n hb), n⟩
 ·have := r 0 _ rfl; rwa [Nat.zero_add] at this
 ·have := r 1 _ rfl; rwa [Nat.zero_add] at this

set_option maxHeartbeats 16000000 in
set_option maxRecDepth 1000000 in
theorem rests1_any (bc bw bi bf : Nat) (A : Option Addr) (c : Nat) (B1 B2 : Option Addr) (b1 b2 : Nat) (ws : Wk) (s : Ca) (id lo hi : Int) (i n : Nat) (pi p : Pl) (w : World) (h : RK w.heap.size (.slice A ws.length c) ws w) (hs : RCa w.heap.size (.agg #[.slice B1 s.river.length b1, .slice B2 s.boards.length b2]) s w)
  (hw : WOk ws) (hc : CaOk ws s) (hid : (Lit.int .i64 id).wf = true) (hf : FstIs (fun o : Ou => o.id) (outs ws) id i) (hpi : (allP ws)[i]? = some pi) (hp : (allP ws)[n]? = some p) (hr : Rs0 bc bw bi bf (.slice A ws.length c) (.slice B1 s.river.length b1) (.slice B2 s.boards.length b2) id lo hi w) :
  Calls Try.prog 126 #[.agg #[.int .i64 p.at_, .int .i64 p.c, .int .i64 p.n], ouV p.o, .pointer (some ⟨bc, 0, none⟩), .pointer (some ⟨bw, 0, none⟩), .pointer (some ⟨bi, 0, none⟩), .pointer (some ⟨bf, 0, none⟩)] w fun e w' => e = .returned (.bool (restB ws s id i lo hi p)) ∧ Below w.heap.size w w' := by
 have HW2 := Lib.hid (wider_ok hw hc hp)
 have hat : p.at_ = n := (allP_inv hp).1
 subst hat
 have hpl : (p.o.ps.length : Int) ≤ 8 := by have := (hw.ou hp).pu; omega
 have hpl2 : p.o.ps.length ≤ 100000 := by omega
 have hlb : p.at_ < s.boards.length := by rw [hc.b]; exact lt_total hp
 have hlb0 : (p.at_ : Int) < (s.boards.length : Int) := by omega
 have hl60 : s.boards.length ≤ 60 := by rw [hc.b]; exact hw.tot
 have HR0 := Lib.hid hr
 have HH := Lib.hid h
 have HSS := Lib.hid hs
 have CC := Lib.hid fun W (hb : Below w.heap.size w W) => cloneS_any (.slice B2 s.boards.length b2) s.boards W ((hs.parts.2).up hb.size hb) (by omega)
 have CE := Lib.hid fun (cv : Value) W (hb : Below w.heap.size w W) (hs' : RCa W.heap.size cv (wider s p) W) => endsOf_any A c cv ws (wider s p) id i pi W (h.up hb.size hb) hs' hw (wider_ok hw hc hp) hid hf hpi
 obtain ⟨xa, xc, xn, x⟩ := p
 simp only at hlb hlb0 hpl hpl2 ⊢
 clear h hs hw hc hid hf hpi hp hr
 obtain ⟨f1, hf1⟩ : ∃ f, flE ws (wider s ⟨xa, xc, xn, x⟩) id i 1 = f := ⟨_, rfl⟩
 obtain ⟨f2, hf2⟩ : ∃ f, flE ws (wider s ⟨xa, xc, xn, x⟩) id i (-1) = f := ⟨_, rfl⟩
 rw [hf1, hf2] at CE
 have HFF : Hid (restB ws s id i lo hi ⟨xa, xc, xn, x⟩ = !(decide (f1 = lo) && decide (f2 = hi))) := Lib.hid (by unfold restB; rw [hf1, hf2])
 have SF := Lib.hid fun w (a1 a2 a3 a4 d1 d2 d3 d4 : Value) => sup_flow f1 f2 w (a1 := a1) (a2 := a2) (a3 := a3) (a4 := a4) (d1 := d1) (d2 := d2) (d3 := d3) (d4 := d4)
 clear hf1 hf2
 obtain ⟨W2, hW2⟩ : ∃ W2, (w.alloc (.cells #[.int .i64 xa, .int .i64 xc, .int .i64 xn] 133)).alloc (.cells #[.int .i64 x.id, .int .i64 x.into, .slice x.pa x.ps.length x.pc, .int .i64 x.k0, .int .i64 x.k1, .int .i64 x.s0, .int .i64 x.s1] 42) = W2 := ⟨_, rfl⟩
 have bW2 : Below w.heap.size w W2 := by rw [← hW2]; exact ((Below.refl _ _).alloc (Nat.le_refl _) _).alloc (by simp) _
 have HB2 := Lib.hid bW2
 have R2 := Lib.hid (HR0.out.below bW2)
 have HLT := Lib.hid HR0.out.lt
 have HZ2 : Hid (W2.heap.size = w.heap.size + 2) := Lib.hid (by rw [← hW2]; simp)
 have PX : Hid (PlC w.heap.size ⟨xa, xc, xn, x⟩ W2 ∧ OuC (w.heap.size + 1) x W2) := Lib.hid (by rw [← hW2]; exact ⟨⟨by simp [go_sem], by simp [go_sem], by simp [go_sem]⟩, ⟨by simp [go_sem], by simp [go_sem], by simp [go_sem], by simp [go_sem], by simp [go_sem], by simp [go_sem], by simp [go_sem]⟩⟩)
 have HWW := Lib.hid hW2
 clear hW2 bW2
 go_enter Try.func126, Try.ntmps126
 go_upto_region 1 with fail
 rw [HWW.out]
 go_cut [9] (fun s9 wx => ∃ (g : Nat) (v : Value), s9 = .pointer (some ⟨g, 0, none⟩) ∧ Rs1 W2 g (.slice B1 s.river.length b1) v s.boards wx)
 case first =>
  obtain ⟨Wd, hWd⟩ : ∃ Wd, W2.drew = Wd := ⟨_, rfl⟩
  have bD : Below W2.heap.size W2 Wd := by rw [← hWd]; exact (Below.refl _ _).drew
  have HBD2 := Lib.hid bD
  have HD2 : Hid (W2.heap.size ≤ Wd.heap.size) := Lib.hid bD.size
  have HBD : Hid (Below w.heap.size w Wd) := Lib.hid (HB2.out.trans (bD.mono HB2.out.size))
  have k0 := BelS.c bD R2.out.c0
  have k1 := BelS.c bD R2.out.c1
  have HWd := Lib.hid hWd
  clear hWd bD
  refine wp_region_T 7 (S := BelS Wd) (by kernel_rfl) (by rw [HWd.out]; exact Below.refl _ _) (fun J0 => ?_)
  rw [HWd.out] at J0 ⊢
  refine tt 0 10 J0 ?_
  try simp only [aS]
  refine tt 1 11 J0 ?_ (hy := by intro w' hSw; have r0 := hSw.c k0; have r1 := hSw.c k1; go_simp; try with_reducible rfl)
  try simp only [aS]
  refine tt 2 12 J0 ?_
  try simp only [aS]
  refine tt 3 13 J0 ?_ (hy := by intro w' hSw; have r0 := hSw.c k0; have r1 := hSw.c k1; go_simp; try with_reducible rfl)
  try simp only [aS]
  refine twoT (i := 4) (j := 6) (by kernel_rfl) rfl rfl (fun K hK => ?_) (fun K hK => ?_)
  ·go_simp
   refine (CC.out _ (HBD.out.trans (Below.mono J0 HBD.out.size))).mono ?_
   rintro e wq1 ⟨v, rfl, ov, bq1⟩
   obtain ⟨Av, cv_, rfl, -⟩ := ov.form
   have nv : ∀ b, (Value.slice Av s.boards.length cv_).ownBlock = some b → Wd.heap.size ≤ b ∧ b < wq1.heap.size := fun b hb => ov.lt b hb
   have ov := ov.low (base' := W2.heap.size) (by have := Below.size J0; have := HD2.out; omega)
   have J1 := J0.below bq1
   refine hK.out _ _ J1 ?_
   clear hK K
   try simp only [aS]
   refine tt 5 15 J1 ?_
   try simp only [aS]
   refine oneT (i := 6) (by kernel_rfl) rfl (fun K hK => ?_)
   go_simp
   obtain ⟨wq2, hwq2⟩ : ∃ wq2, wq1.alloc (.cells #[.slice none 0 0, .slice none 0 0] 46) = wq2 := ⟨_, rfl⟩
   have bq2 : Below wq1.heap.size wq1 wq2 := by rw [← hwq2]; exact (Below.refl _ _).alloc (Nat.le_refl _) _
   obtain ⟨g, hge⟩ : ∃ g, wq1.heap.size = g := ⟨_, rfl⟩
   have tg : wq2.there g 0 2 := by rw [← hwq2, ← hge]; exact twoZ _
   have hg : g < wq2.heap.size := there_lt tg (by decide)
   rw [hwq2]
   try rw [hge]
   have J2 := J1.below bq2
   have hgW : W2.heap.size ≤ g := by have := Below.size J1; have := HD2.out; omega
   have ov := ov.below bq2
   have mv : (Value.slice Av s.boards.length cv_).ownBlock ≠ some g := fun hb => by have := (nv g hb).2; omega
   have HH2 := Lib.hid (And.intro hge hwq2)
   clear hge hwq2
   refine hK.out _ _ J2 ?_
   clear hK K
   try simp only [aS]
   refine lastT (by kernel_rfl) rfl (fun K hK => ?_)
   have RS := run_storeAt_mid (P := Try.prog) wq2 g 0 46 #[.slice B1 s.river.length b1, .slice Av s.boards.length cv_] tg (by kernel_rfl) (by simp only [Array.all_eq_true_iff_forall_mem, List.mem_toArray, List.mem_cons, List.not_mem_nil, or_false]; rintro u (rfl | rfl); exact rfl; exact oneG ov)
   rw [if_pos (by rfl)]
   refine wp_store_run 46 _ _ rfl (u := .pointer (some ⟨g, 0, none⟩)) (v := .agg #[.slice B1 s.river.length b1, .slice Av s.boards.length cv_]) rfl rfl RS ?_
   refine hK.out _ _ ?_
   clear hK K
   refine doneT (by kernel_rfl) ?_ _
   have ER := Rs1.make hgW (HBD2.out.trans (Below.mono J2 HD2.out)) tg ov mv (.slice B1 s.river.length b1)
   have ER := Lib.hid ER
   clear tg hg RS ov nv mv
   go_wp2_with fail
   go_meet
   exact ⟨g, _, rfl, ER.out⟩
  ·go_simp
   obtain ⟨wq1, hwq1⟩ : ∃ wq1, Wd.alloc (.cells #[.slice none 0 0, .slice none 0 0] 46) = wq1 := ⟨_, rfl⟩
   have bq1 : Below Wd.heap.size Wd wq1 := by rw [← hwq1]; exact (Below.refl _ _).alloc (Nat.le_refl _) _
   obtain ⟨g, hge⟩ : ∃ g, Wd.heap.size = g := ⟨_, rfl⟩
   have tg : wq1.there g 0 2 := by rw [← hwq1, ← hge]; exact twoZ _
   have hg : g < wq1.heap.size := there_lt tg (by decide)
   rw [hwq1]
   try rw [hge]
   have J1 := J0.below bq1
   have hgW : W2.heap.size ≤ g := by have := Below.size J0; have := HD2.out; omega
   have HH1 := Lib.hid (And.intro hge hwq1)
   clear hge hwq1
   refine hK.out _ _ J1 ?_
   clear hK K
   try simp only [aS]
   refine oneT (i := 4) (by kernel_rfl) rfl (fun K hK => ?_)
   go_simp
   refine (CC.out _ (HBD.out.trans (Below.mono J1 HBD.out.size))).mono ?_
   rintro e wq2 ⟨v, rfl, ov, bq2⟩
   obtain ⟨Av, cv_, rfl, -⟩ := ov.form
   have nv : ∀ b, (Value.slice Av s.boards.length cv_).ownBlock = some b → wq1.heap.size ≤ b ∧ b < wq2.heap.size := fun b hb => ov.lt b hb
   have ov := ov.low (base' := W2.heap.size) (by have := Below.size J1; have := HD2.out; omega)
   have J2 := J1.below bq2
   have tg := there_below tg hg bq2
   have hg := Nat.lt_of_lt_of_le hg bq2.size
   have mv : (Value.slice Av s.boards.length cv_).ownBlock ≠ some g := fun hb => by have := (nv g hb).1; omega
   refine hK.out _ _ J2 ?_
   clear hK K
   try simp only [aS]
   refine tt 5 15 J2 ?_
   try simp only [aS]
   refine lastT (by kernel_rfl) rfl (fun K hK => ?_)
   have RS := run_storeAt_mid (P := Try.prog) wq2 g 0 46 #[.slice B1 s.river.length b1, .slice Av s.boards.length cv_] tg (by kernel_rfl) (by simp only [Array.all_eq_true_iff_forall_mem, List.mem_toArray, List.mem_cons, List.not_mem_nil, or_false]; rintro u (rfl | rfl); exact rfl; exact oneG ov)
   rw [if_pos (by rfl)]
   refine wp_store_run 46 _ _ rfl (u := .pointer (some ⟨g, 0, none⟩)) (v := .agg #[.slice B1 s.river.length b1, .slice Av s.boards.length cv_]) rfl rfl RS ?_
   refine hK.out _ _ ?_
   clear hK K
   refine doneT (by kernel_rfl) ?_ _
   have ER := Rs1.make hgW (HBD2.out.trans (Below.mono J2 HD2.out)) tg ov mv (.slice B1 s.river.length b1)
   have ER := Lib.hid ER
   clear tg hg RS ov nv mv
   go_wp2_with fail
   go_meet
   exact ⟨g, _, rfl, ER.out⟩
 case rest =>
  obtain ⟨g, v, rfl, hE⟩ := hcut
  obtain ⟨Av, cv_, rfl, hAv⟩ := hE.o.form
  obtain ⟨gb, rfl⟩ := hAv (by omega)
  have HE := Lib.hid hE
  have R3 := Lib.hid (R2.out.below hE.bel)
  have PX3 := Lib.hid (And.intro (PX.out.1.below hE.bel) (PX.out.2.below hE.bel))
  have HPL2 := Lib.hid hpl2
  obtain ⟨sv, hsv⟩ : ∃ sv, s.boards[xa]? = some sv := ⟨_, List.getElem?_eq_getElem hlb⟩
  have HSV := Lib.hid hsv
  have HB3 := Lib.hid (HB2.out.trans (hE.bel.mono HB2.out.size))
  clear hE hAv hsv
  go_upto_region 2 with fail
  obtain ⟨Wd, hWd⟩ : ∃ Wd, wc.drew = Wd := ⟨_, rfl⟩
  have bD : Below wc.heap.size wc Wd := by rw [← hWd]; exact (Below.refl _ _).drew
  have RD := Lib.hid (R3.out.below bD)
  have hED : Rs1 W2 g (.slice B1 s.river.length b1) (.slice (some ⟨gb, 0, none⟩) s.boards.length cv_) s.boards Wd := ⟨HE.out.bel.trans (bD.mono HE.out.bel.size), HE.out.ge, BelS.c bD HE.out.c0, BelS.c bD HE.out.c1, HE.out.o.below bD, HE.out.n⟩
  have hOD := PX3.out.2.below bD
  have k1 := hED.c1
  have p0 := (PX3.out.1.below bD).at_
  have o0 := hOD.id
  have o1 := hOD.into
  have o2 := hOD.pv
  have o3 := hOD.k0
  have o4 := hOD.k1
  have o5 := hOD.s0
  have o6 := hOD.s1
  simp only at p0
  have HBD := Lib.hid (HB3.out.trans (bD.mono HB3.out.size))
  have HWd := Lib.hid hWd
  have hxa0 : (0 : Int) ≤ (xa : Int) := by omega
  clear hWd bD hOD
  refine wp_region_T 7 (S := BelS Wd) (by kernel_rfl) (by rw [HWd.out]; exact Below.refl _ _) (fun J0 => ?_)
  rw [HWd.out] at J0 ⊢
  refine tt 0 16 J0 ?_
  try simp only [aS]
  have KK1 := Lib.hid fun (w_ : World) (hSw : BelS _ w_) => And.intro (hSw.c k1) (And.intro (hSw.c p0) (And.intro (hSw.c o0) (And.intro (hSw.c o1) (And.intro (hSw.c o2) (And.intro (hSw.c o3) (And.intro (hSw.c o4) (And.intro (hSw.c o5) (hSw.c o6))))))))
  refine tq KK1 1 17 J0 ?_
  try simp only [aS]
  refine tt 2 18 J0 ?_
  try simp only [aS]
  refine tq KK1 3 19 J0 ?_
  try simp only [aS]
  refine tq KK1 4 20 J0 ?_
  try simp only [aS]
  refine oneT (i := 5) (by kernel_rfl) rfl (fun K hK => ?_)
  go_simp
  refine (boards_any x _ HPL2.out).mono ?_
  rintro e wq ⟨rfl, bq⟩
  have J1 := J0.below bq
  have ROW := (hED.o.below J1)
  have BQ := Lib.hid (BelS.b J1)
  have RQ := Lib.hid (RD.out.below J1)
  have hat0 : (s.boards.flatMap enc2)[xa * 2 + 0]? = some (.int .i64 sv.1) := (E2.at_ _ _ 0 _ HSV.out (by decide)).trans rfl
  have hat1 : (s.boards.flatMap enc2)[xa * 2 + 1]? = some (.int .i64 sv.2) := (E2.at_ _ _ 1 _ HSV.out (by decide)).trans rfl
  have y0 : wq.cell? ⟨gb, xa * 2, none⟩ = some (.int .i64 sv.1) := (World.ownsRow.cellAt ROW (xa * 2) (by omega)).trans hat0
  have y1 : wq.cell? ⟨gb, xa * 2 + 1, none⟩ = some (.int .i64 sv.2) := (World.ownsRow.cellAt ROW (xa * 2 + 1) (by omega)).trans hat1
  have z0 := World.ownsRow.frozenAt ROW (xa * 2)
  have z1 := World.ownsRow.frozenAt ROW (xa * 2 + 1)
  have HROW := Lib.hid ROW
  clear bq ROW hat0 hat1
  refine hK.out _ _ J1 ?_
  clear hK K
  try simp only [aS]
  refine tq KK1 6 22 J1 ?_
  try simp only [aS]
  refine lastT (by kernel_rfl) rfl (fun K hK => ?_)
  go_simp
  refine hK.out _ _ ?_
  clear hK K
  try simp only [aS]
  refine doneT (by kernel_rfl) ?_ _
  obtain ⟨W5, hW5⟩ : ∃ W5, (wq.setCell ⟨gb, xa * 2, none⟩ (.int .i64 0)).setCell ⟨gb, xa * 2 + 1, none⟩ (.int .i64 ((x.ps.length : Int) - 1)) = W5 := ⟨_, rfl⟩
  have g5 : GrownL [gb] wq W5 := by rw [← hW5]; exact (GrownL.set _ _ _ (by simp)).trans (GrownL.set _ _ _ (by simp))
  have hgb := (hED.o.lt gb rfl).1
  have hgn : g ≠ gb := fun e => hED.n (by rw [e]; rfl)
  have O5 : Hid (OwnG enc2 2 40 W2.heap.size (.slice (some ⟨gb, 0, none⟩) s.boards.length cv_) (s.boards.set xa (0, (x.ps.length : Int) - 1)) W5) := Lib.hid (by rw [← hW5]; exact HROW.out.set2 rfl xa (0, (x.ps.length : Int) - 1))
  have hz2 := HZ2.out
  have R5 := Lib.hid (RQ.out.grown g5 (fun k hk => by rw [List.mem_singleton] at hk; subst hk; have := HLT.out; omega))
  have HB5 : Hid (Below w.heap.size w W5) := Lib.hid ((HBD.out.trans (Below.mono BQ.out HBD.out.size)).trans (g5.below (by simp; omega) (HBD.out.trans (Below.mono BQ.out HBD.out.size)).size))
  have q0 : W5.cell? ⟨g, 0, none⟩ = some (.slice B1 s.river.length b1) := g5.cell (BelS.c BQ.out hED.c0) (by simpa using hgn)
  have q1 : W5.cell? ⟨g, 1, none⟩ = some (.slice (some ⟨gb, 0, none⟩) s.boards.length cv_) := g5.cell (BelS.c BQ.out hED.c1) (by simpa using hgn)
  have q2 := R5.out.w0
  have q3 := R5.out.i0
  have q4 := R5.out.f0
  have q5 := R5.out.f1
  have HRC : Hid (∀ W, Below W5.heap.size W5 W → RCa W.heap.size (.agg #[.slice B1 s.river.length b1, .slice (some ⟨gb, 0, none⟩) s.boards.length cv_]) (wider s ⟨xa, xc, xn, x⟩) W) := Lib.hid fun W hb => ⟨_, _, rfl, (HSS.out.parts.1).up (HB5.out.trans (hb.mono HB5.out.size)).size (HB5.out.trans (hb.mono HB5.out.size)), ((O5.out.below hb).rr E2 (by simp [wider]; omega))⟩
  rw [hW5]
  clear k1 p0 o0 o1 o2 o3 o4 o5 o6 y0 y1 z0 z1 hW5 g5 hgb hgn J0 J1 hED hxa0 hz2
  go_upto_region 3 with fail
  refine wp_region_held_drew  (S := BelS W5) (by kernel_rfl) (BelS.drew0 _) (fun J0 => ?_)
  have KK2 := Lib.hid fun (w_ : World) (hSw : BelS _ w_) => And.intro (hSw.c q0) (And.intro (hSw.c q1) (And.intro (hSw.c q2) (And.intro (hSw.c q3) (And.intro (hSw.c q4) (hSw.c q5)))))
  refine tw 0 23 J0 ?_ (hy := by intro w' hSw; have sf := SF.out w'; have q := KK2.out w' hSw; go_simp; try with_reducible rfl)
  try simp only [aS]
  refine tw 1 24 J0 ?_ (hy := by intro w' hSw; have sf := SF.out w'; have q := KK2.out w' hSw; go_simp; try with_reducible rfl)
  try simp only [aS]
  refine tw 2 25 J0 ?_ (hy := by intro w' hSw; have sf := SF.out w'; have q := KK2.out w' hSw; go_simp; try with_reducible rfl)
  try simp only [aS]
  refine tw 5 28 J0 ?_ (hy := by intro w' hSw; have sf := SF.out w'; have q := KK2.out w' hSw; go_simp; try with_reducible rfl)
  try simp only [aS]
  refine wpAnyH_ready (rs := [3]) (by kernel_rfl) (by simp) ?_
  refine AllReadyH.cons rfl (fun K hK => ?_) AllReadyH.nil
  go_simp
  refine (CE.out _ _ (HB5.out.trans (Below.mono (BelS.b J0) HB5.out.size)) (HRC.out _ (BelS.b J0))).mono ?_
  rintro e wq1 ⟨a1, a2, a3, a4, d1, d2, d3, d4, rfl, -, -, hq1⟩
  have J01 := J0.below hq1
  clear hq1
  refine hK.out _ _ J01 (fun _ => ?_)
  clear hK
  try simp only [aS]
  refine tw 4 27 J01 ?_ (hy := by intro w' hSw; have sf := SF.out w'; have q := KK2.out w' hSw; go_simp; try with_reducible rfl)
  try simp only [aS]
  refine takeW (i := 6) (d := some 29) (v := .bool (!(decide (f1 = lo) && decide (f2 = hi)))) rfl rfl (by kernel_rfl) (by kernel_rfl) (by kernel_rfl) (fun _ _ _ h => h) (by rfl) ?_ J01 ?_
  ·(intro w' hSw; have sf := SF.out w'; have q0 := hSw.c q0; have q1 := hSw.c q1; have q2 := hSw.c q2; have q3 := hSw.c q3; have q4 := hSw.c q4; have q5 := hSw.c q5; go_simp; by_cases e1 : f1 = lo <;> by_cases e2 : f2 = hi <;> simp [e1, e2])
  try simp only [aS]
  refine tw 7 8 J01 ?_ (hy := by intro w' hSw; have sf := SF.out w'; have q := KK2.out w' hSw; go_simp; try with_reducible rfl)
  try simp only [aS]
  refine wpAnyH_done (by kernel_rfl) ?_ _
  have BF := Lib.hid (BelS.b J01)
  clear J0 J01 q0 q1 q2 q3 q4 q5
  go_wp2_with fail
  go_ret
  exact ⟨by rw [HFF.out]; cases decide (f1 = lo) <;> cases decide (f2 = hi) <;> rfl, HB5.out.trans (BF.out.mono HB5.out.size)⟩
end Go.Proofs.Ytkoacclbempmdaa

/- Contract of Rests. -/
namespace Go.Proofs.Ytkoacclbempmdaa
open Go.RowKit

/-- The outlets whose board matters for the ends of one. -/
noncomputable def restsL (ws : Wk) (s : Ca) (id : Int) (i : Nat) : List Int := idsQ (restB ws s id i (flE ws s id i 1) (flE ws s id i (-1))) (allP ws)
def RestsR (ws : Wk) (s : Ca) (id i d : Int) (w : World) (e : Ending) (w' : World) : Prop := ∃ u, e = .returned (.tuple #[u, .int .i64 d]) ∧ OwnG encI 1 3 w.heap.size u (okL d (restsL ws s id i.toNat)) w' ∧ Below w.heap.size w w'
/-- What Rests keeps. -/
structure Rq (w : World) (v a b : Value) (id : Int) (W : World) : Prop where
 wk : W.cell? ⟨w.heap.size, 0, none⟩ = some v
 ca : W.cell? ⟨w.heap.size + 1, 0, none⟩ = some a
 cb : W.cell? ⟨w.heap.size + 1, 1, none⟩ = some b
 id : W.cell? ⟨w.heap.size + 1 + 1, 0, none⟩ = some (.int .i64 id)
 bel : Below w.heap.size w W
theorem Rq.below {w W W' : World} {v a b : Value} {id : Int} (h : Rq w v a b id W) (hb : Below W.heap.size W W') : Rq w v a b id W' := ⟨BelS.c hb h.wk, BelS.c hb h.ca, BelS.c hb h.cb, BelS.c hb h.id, h.bel.trans (hb.mono h.bel.size)⟩
theorem Rq.siz {w W : World} {v a b : Value} {id : Int} (h : Rq w v a b id W) : w.heap.size + 3 ≤ W.heap.size := World.block_lt_of_cell? _ _ h.id

set_option maxHeartbeats 8000000 in
set_option maxRecDepth 1000000 in
theorem Rests_any (v cv : Value) (ws : Wk) (s : Ca) (id i d : Int) (w : World) (h : RK w.heap.size v ws w) (ht : total ws ≤ 100000) (hs : RCa w.heap.size cv s w) (hd : CasAt ws s id i d) (hid : (Lit.int .i64 id).wf = true) :
  Calls Try.prog 69 #[.agg #[v], cv, .int .i64 id] w (RestsR ws s id i d w) := by
 obtain ⟨A, c, rfl, -⟩ := (show ∃ A c, v = .slice A ws.length c ∧ True by obtain ⟨A, c, e, _⟩ := h; exact ⟨A, c, e, trivial⟩)
 obtain ⟨A1, c1, A2, c2, rfl⟩ := hs.form
 have C1 := Lib.hid fun W (hb : Below w.heap.size w W) => checkCaseOf_any (.slice A ws.length c) _ ws s id i d W (h.up hb.size hb) ht (hs.up hb.size hb) hd
 have C2 := Lib.hid fun (n : Nat) (p : Pl) (hw : WOk ws) (hc : CaOk ws s) (hf : FstIs (fun o : Ou => o.id) (outs ws) id n) (hp : (allP ws)[n]? = some p) W (hb : Below w.heap.size w W) => endsOf_any A c _ ws s id n p W (h.up hb.size hb) (hs.up hb.size hb) hw hc hid hf hp
 have HD := Lib.hid hd
 have H := Lib.hid h
 have HS := Lib.hid hs
 clear h hs hd
 go_enter Try.func69, Try.ntmps69
 go_wp2_with fail
 refine (C1.out _ ?b).mono ?_
 case b => exact (((Below.refl _ _).alloc (Nat.le_refl _) _).alloc (by simp) _).alloc (by simp; omega) _
 rintro e w1 ⟨rfl, bb1⟩
 have S1 : Hid (Rq w (.slice A ws.length c) (.slice A1 s.river.length c1) (.slice A2 s.boards.length c2) id w1) := Lib.hid (Rq.below ⟨by simp [go_sem], by simp [go_sem], by simp [go_sem], by simp [go_sem], (((Below.refl _ _).alloc (Nat.le_refl _) _).alloc (by simp) _).alloc (by simp; omega) _⟩ bb1)
 clear bb1
 by_cases hd0 : d = 0
 ·subst hd0
  obtain ⟨hw, hc, n, p, rfl, hf, hp⟩ := HD.out.ok
  have C3 := Lib.hid (C2.out n p hw hc hf hp)
  have HK := Lib.hid (And.intro hw (And.intro hc (And.intro hf hp)))
  have HID := Lib.hid hid
  have x0 := S1.out.wk
  have x1 := S1.out.ca
  have x2 := S1.out.cb
  have x3 := S1.out.id
  clear hw hc hf hp C2 hid
  go_wp2_with fail
  refine (C3.out _ S1.out.bel).mono ?_
  rintro e w2 ⟨a1, a2, a3, a4, a5, a6, a7, a8, rfl, -, -, bb2⟩
  have S2 := Lib.hid (S1.out.below bb2)
  obtain ⟨f1, hf1⟩ : ∃ f, flE ws s id n 1 = f := ⟨_, rfl⟩
  obtain ⟨f2, hf2⟩ : ∃ f, flE ws s id n (-1) = f := ⟨_, rfl⟩
  have HF := Lib.hid (And.intro hf1 hf2)
  rw [hf1, hf2]
  have sf := sup_flow f1 f2 w2 (a1 := a1) (a2 := a2) (a3 := a3) (a4 := a4) (d1 := a5) (d2 := a6) (d3 := a7) (d4 := a8)
  obtain ⟨W3, hW3⟩ : ∃ W3, w2.alloc (.cells #[.int .i64 f1, .int .i64 f2] 40) = W3 := ⟨_, rfl⟩
  have b3 : Below w2.heap.size w2 W3 := by rw [← hW3]; exact (Below.refl _ _).alloc (Nat.le_refl _) _
  have S3 := Lib.hid (S2.out.below b3)
  have R0 : Hid (Rs0 (w.heap.size + 1) w.heap.size (w.heap.size + 1 + 1) w2.heap.size (.slice A ws.length c) (.slice A1 s.river.length c1) (.slice A2 s.boards.length c2) id f1 f2 W3) := Lib.hid ⟨S3.out.ca, S3.out.cb, S3.out.wk, S3.out.id, by rw [← hW3]; simp [go_sem], by rw [← hW3]; simp [go_sem]⟩
  have x0 : (w2.alloc (.cells #[.int .i64 f1, .int .i64 f2] 40)).cell? ⟨w.heap.size, 0, none⟩ = some (.slice A ws.length c) := by rw [hW3]; exact S3.out.wk
  have HW3 := Lib.hid hW3
  clear x1 x2 x3 hf1 hf2 bb2 b3 hW3 S1
  go_wp2_with fail
  rw [HW3.out]
  obtain ⟨hw, hc, hf, hp⟩ := HK.out
  refine (amongRests_any A c ws (restB ws s id n f1 f2) (w.heap.size + 1) w.heap.size (w.heap.size + 1 + 1) w2.heap.size W3 (H.out.up S3.out.bel.size S3.out.bel) (by have := hw.tot; omega) (by have := hw.len; omega) (fun m q W hq hb => ?hcl)).mono ?_
  case hcl =>
   have hbw := S3.out.bel.trans (hb.mono S3.out.bel.size)
   exact rests1_any _ _ _ _ A c A1 A2 c1 c2 ws s id f1 f2 n m p q W (H.out.up hbw.size hbw) (HS.out.up hbw.size hbw) hw hc HID.out hf hp hq (R0.out.below hb)
  rintro e w4 ⟨u, rfl, ho, b4⟩
  have HO := Lib.hid ho
  have S4 := Lib.hid (S3.out.below b4)
  obtain ⟨Au, cu, rfl, -⟩ := ho.form
  clear ho b4 hw hc hf hp x0
  go_wp2_with fail
  refine bodyPost_ret (results_tmp2 rfl _ _ _) rfl ?_
  refine ⟨_, rfl, ?_, S4.out.bel⟩
  rw [okL_zero]
  unfold restsL
  rw [Int.toNat_natCast, HF.out.1, HF.out.2]
  exact HO.out.low (by have := S3.out.siz; omega)
 ·have HD0 := Lib.hid hd0
  go_wp2_with fail
  refine bodyPost_ret (results_tmp2 rfl _ _ _) rfl ?_
  exact ⟨_, rfl, by rw [okL_ne HD0.out]; exact OwnG.nil _ _ _ _ _, S1.out.bel⟩
end Go.Proofs.Ytkoacclbempmdaa
