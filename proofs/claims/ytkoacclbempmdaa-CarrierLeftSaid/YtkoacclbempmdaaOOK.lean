/- Contracts of checkCaseOf and Ends. -/
import Derived.Test.YtkoacclbempmdaaOOJ
namespace Go.Proofs.Ytkoacclbempmdaa
open Go.RowKit

/-- Works and a case, in the function's first two blocks. -/
structure CW (w : World) (v a b : Value) (W : World) : Prop where
 wk : W.cell? ⟨w.heap.size, 0, none⟩ = some v
 ca : W.cell? ⟨w.heap.size + 1, 0, none⟩ = some a
 cb : W.cell? ⟨w.heap.size + 1, 1, none⟩ = some b
 bel : Below w.heap.size w W
theorem CW.new (w : World) (v a b : Value) : CW w v a b ((w.alloc (.cells #[v] 24)).alloc (.cells #[a, b] 46)) := ⟨by simp [go_sem], by simp [go_sem], by simp [go_sem], ((Below.refl _ _).alloc (Nat.le_refl _) _).alloc (by simp) _⟩
theorem CW.siz {w W : World} {v a b : Value} (h : CW w v a b W) : w.heap.size + 2 ≤ W.heap.size := World.block_lt_of_cell? _ _ h.ca
theorem CW.below {w W W' : World} {v a b : Value} (h : CW w v a b W) (hb : Below W.heap.size W W') : CW w v a b W' := ⟨BelS.c hb h.wk, BelS.c hb h.ca, BelS.c hb h.cb, h.bel.trans (hb.mono h.bel.size)⟩
/-- What checkCaseOf says. -/
def CasAt (ws : Wk) (s : Ca) (id i d : Int) : Prop := (CasIs ws s d ∧ d ≠ 0 ∧ i = 0) ∨ (CasIs ws s 0 ∧ KnownIs ws id i d)
theorem CasAt.exists_ (ws : Wk) (s : Ca) (id : Int) : ∃ i d, CasAt ws s id i d := by
 obtain ⟨d, hd⟩ := CasIs.exists_ ws s
 by_cases h : d = 0
 ·subst h
  obtain ⟨i, d', h'⟩ := KnownIs.exists_ ws id
  exact ⟨i, d', .inr ⟨hd, h'⟩⟩
 ·exact ⟨0, d, .inl ⟨hd, h, rfl⟩⟩
theorem CasAt.ok {ws : Wk} {s : Ca} {id i : Int} (h : CasAt ws s id i 0) : WOk ws ∧ CaOk ws s ∧ ∃ (n : Nat) (p : Pl), i = n ∧ FstIs (fun o : Ou => o.id) (outs ws) id n ∧ (allP ws)[n]? = some p := by
 rcases h with ⟨_, h, _⟩ | ⟨h1, h2⟩
 ·exact absurd rfl h
 ·obtain ⟨a, b⟩ := h1.ok
  refine ⟨a, b, ?_⟩
  rcases h2 with ⟨_, h, _⟩ | ⟨_, _, _, h⟩ | ⟨_, hf, hi, _⟩
  ·exact absurd rfl h
  ·omega
  ·obtain ⟨n, rfl⟩ : ∃ n : Nat, i = n := ⟨i.toNat, by omega⟩
   refine ⟨n, ?_⟩
   rcases hf with ⟨k, o, h1, h2, h3, h4⟩ | ⟨-, h⟩
   ·have e : k = n := by omega
    subst e
    obtain ⟨p, hp⟩ := at_total (ws := ws) (n := k) (by rw [← outs_len]; exact (List.getElem?_eq_some_iff.1 h1).1)
    exact ⟨p, rfl, .inl ⟨k, o, h1, h2, h3, h4⟩, hp⟩
   ·omega

set_option maxHeartbeats 8000000 in
set_option maxRecDepth 1000000 in
theorem checkCaseOf_any (v cv : Value) (ws : Wk) (s : Ca) (id i d : Int) (w : World) (h : RK w.heap.size v ws w) (ht : total ws ≤ 100000) (hs : RCa w.heap.size cv s w) (hd : CasAt ws s id i d) :
  Calls Try.prog 82 #[.agg #[v], cv, .int .i64 id] w fun e w' => e = .returned (.int .i64 d) ∧ Below w.heap.size w w' := by
 obtain ⟨A, c, rfl, -⟩ := (show ∃ A c, v = .slice A ws.length c ∧ True by obtain ⟨A, c, e, _⟩ := h; exact ⟨A, c, e, trivial⟩)
 obtain ⟨A1, c1, A2, c2, rfl⟩ := hs.form
 have S0 := Lib.hid (CW.new w (.slice A ws.length c) (.slice A1 s.river.length c1) (.slice A2 s.boards.length c2))
 have C1 := Lib.hid fun (d : Int) (hc : CasIs ws s d) W (hb : Below w.heap.size w W) => CheckCase_any (.slice A ws.length c) _ ws s d W (h.up hb.size hb) (by omega) (hs.up hb.size hb) hc
 have C2 := Lib.hid fun (i d : Int) (hk : KnownIs ws id i d) W (hb : Below w.heap.size w W) => checkOutlet_any (.slice A ws.length c) ws id i d W (h.up hb.size hb) ht hk
 clear h hs
 rcases hd with ⟨hc, hd, rfl⟩ | ⟨hc, hk⟩
 ·have HC := Lib.hid hc
  have HD := Lib.hid hd
  clear hc hd
  go_enter Try.func82, Try.ntmps82
  go_wp2_with fail
  refine (C1.out d HC.out _ S0.out.bel).mono ?_
  rintro e w1 ⟨rfl, b1⟩
  have S := Lib.hid (S0.out.below b1)
  have hd := HD.out
  clear b1
  go_wp2_with fail
  go_ret
  exact ⟨rfl, S.out.bel⟩
 ·have HC := Lib.hid hc
  have HK := Lib.hid hk
  clear hc hk
  go_enter Try.func82, Try.ntmps82
  go_wp2_with fail
  refine (C1.out 0 HC.out _ S0.out.bel).mono ?_
  rintro e w1 ⟨rfl, b1⟩
  have S := Lib.hid (S0.out.below b1)
  have t0 := S.out.wk
  clear b1
  go_wp2_with fail
  refine (C2.out i d HK.out _ S.out.bel).mono ?_
  rintro e w2 ⟨rfl, b2⟩
  have S2 := Lib.hid (S.out.below b2)
  clear b2 t0
  go_wp2_with fail
  go_ret
  exact ⟨rfl, S2.out.bel⟩

def okWa (d : Int) (x : Wa) : Wa := if d = 0 then x else ⟨[], [], [], []⟩
/-- A supply that is returned. -/
def SupIs (base : Nat) (lo hi : Int) (x y : Wa) (v : Value) (W : World) : Prop := ∃ a1 a2 a3 a4 b1 b2 b3 b4, v = .agg #[.int .i64 lo, .int .i64 hi, a1, a2, a3, a4, b1, b2, b3, b4] ∧ OW base (.agg #[a1, a2, a3, a4]) x W ∧ OW base (.agg #[b1, b2, b3, b4]) y W
/-- What Ends returns. -/
def EndsR (ws : Wk) (s : Ca) (id i d : Int) (w : World) (e : Ending) (w' : World) : Prop := ∃ v, e = .returned (.tuple #[v, .int .i64 d]) ∧ SupIs w.heap.size (okN d (flE ws s id i.toNat 1)) (okN d (flE ws s id i.toNat (-1))) (okWa d (exW ws s (endE ws id) 1)) (okWa d (exW ws s (endE ws id) (-1))) v w' ∧ Below w.heap.size w w'

set_option maxHeartbeats 8000000 in
set_option maxRecDepth 1000000 in
theorem Ends_any (v cv : Value) (ws : Wk) (s : Ca) (id i d : Int) (w : World) (h : RK w.heap.size v ws w) (ht : total ws ≤ 100000) (hs : RCa w.heap.size cv s w) (hd : CasAt ws s id i d) (hid : (Lit.int .i64 id).wf = true) :
  Calls Try.prog 25 #[.agg #[v], cv, .int .i64 id] w (EndsR ws s id i d w) := by
 obtain ⟨A, c, rfl, -⟩ := (show ∃ A c, v = .slice A ws.length c ∧ True by obtain ⟨A, c, e, _⟩ := h; exact ⟨A, c, e, trivial⟩)
 obtain ⟨A1, c1, A2, c2, rfl⟩ := hs.form
 have C1 := Lib.hid fun W (hb : Below w.heap.size w W) => checkCaseOf_any (.slice A ws.length c) _ ws s id i d W (h.up hb.size hb) ht (hs.up hb.size hb) hd
 have C2 := Lib.hid fun (n : Nat) (p : Pl) (hw : WOk ws) (hc : CaOk ws s) (hf : FstIs (fun o : Ou => o.id) (outs ws) id n) (hp : (allP ws)[n]? = some p) W (hb : Below w.heap.size w W) => endsOf_any A c _ ws s id n p W (h.up hb.size hb) (hs.up hb.size hb) hw hc hid hf hp
 have HD := Lib.hid hd
 clear h hs hd
 go_enter Try.func25, Try.ntmps25
 go_wp2_with fail
 refine (C1.out _ ?b).mono ?_
 case b => exact (((Below.refl _ _).alloc (Nat.le_refl _) _).alloc (by simp) _).alloc (by simp; omega) _
 rintro e w1 ⟨rfl, bb1⟩
 have S1 : Hid (EnS w (.slice A ws.length c) (.slice A1 s.river.length c1) (.slice A2 s.boards.length c2) w1) := Lib.hid (EnS.below ⟨by simp [go_sem], by simp [go_sem], by simp [go_sem], fun j hj => by
  match j, hj with
  | 0, _ => exact ⟨by simp [go_sem], by simp [go_sem]⟩
  | 1, _ => exact ⟨by simp [go_sem], by simp [go_sem]⟩
  | 2, _ => exact ⟨by simp [go_sem], by simp [go_sem]⟩
  | 3, _ => exact ⟨by simp [go_sem], by simp [go_sem]⟩
  | 4, _ => exact ⟨by simp [go_sem], by simp [go_sem]⟩
  | 5, _ => exact ⟨by simp [go_sem], by simp [go_sem]⟩
  | 6, _ => exact ⟨by simp [go_sem], by simp [go_sem]⟩
  | 7, _ => exact ⟨by simp [go_sem], by simp [go_sem]⟩
  | 8, _ => exact ⟨by simp [go_sem], by simp [go_sem]⟩
  | 9, _ => exact ⟨by simp [go_sem], by simp [go_sem]⟩
  | j + 10, hj => omega, (((Below.refl _ _).alloc (Nat.le_refl _) _).alloc (by simp) _).alloc (by simp; omega) _⟩ bb1)
 have r0 : w1.cell? ⟨w.heap.size + 1 + 1, 0, none⟩ = some (.int .i64 0) := BelS.c bb1 (by simp [go_sem])
 have r1 : w1.cell? ⟨w.heap.size + 1 + 1, 1, none⟩ = some (.int .i64 0) := BelS.c bb1 (by simp [go_sem])
 have r2 : w1.cell? ⟨w.heap.size + 1 + 1, 2, none⟩ = some (.slice none 0 0) := BelS.c bb1 (by simp [go_sem])
 have r3 : w1.cell? ⟨w.heap.size + 1 + 1, 3, none⟩ = some (.slice none 0 0) := BelS.c bb1 (by simp [go_sem])
 have r4 : w1.cell? ⟨w.heap.size + 1 + 1, 4, none⟩ = some (.slice none 0 0) := BelS.c bb1 (by simp [go_sem])
 have r5 : w1.cell? ⟨w.heap.size + 1 + 1, 5, none⟩ = some (.slice none 0 0) := BelS.c bb1 (by simp [go_sem])
 have r6 : w1.cell? ⟨w.heap.size + 1 + 1, 6, none⟩ = some (.slice none 0 0) := BelS.c bb1 (by simp [go_sem])
 have r7 : w1.cell? ⟨w.heap.size + 1 + 1, 7, none⟩ = some (.slice none 0 0) := BelS.c bb1 (by simp [go_sem])
 have r8 : w1.cell? ⟨w.heap.size + 1 + 1, 8, none⟩ = some (.slice none 0 0) := BelS.c bb1 (by simp [go_sem])
 have r9 : w1.cell? ⟨w.heap.size + 1 + 1, 9, none⟩ = some (.slice none 0 0) := BelS.c bb1 (by simp [go_sem])
 clear bb1
 by_cases hd0 : d = 0
 ·subst hd0
  obtain ⟨hw, hc, n, p, rfl, hf, hp⟩ := HD.out.ok
  have C3 := Lib.hid (C2.out n p hw hc hf hp)
  have x0 := S1.out.wk
  have x1 := S1.out.ca
  have x2 := S1.out.cb
  clear hw hc hf hp C2 r0 r1 r2 r3 r4 r5 r6 r7 r8 r9
  go_wp2_with fail
  refine (C3.out _ S1.out.bel).mono ?_
  rintro e w2 ⟨a1, a2, a3, a4, a5, a6, a7, a8, rfl, hx, hy, bb2⟩
  have S2 := Lib.hid (S1.out.below bb2)
  have HX := Lib.hid hx
  have HY := Lib.hid hy
  obtain ⟨A1_, c1_, A2_, c2_, A3_, c3_, A4_, c4_, e1⟩ := hx.form
  obtain ⟨B1_, k1_, B2_, k2_, B3_, k3_, B4_, k4_, e2⟩ := hy.form
  simp only [Value.agg.injEq, Array.mk.injEq, List.cons.injEq, and_true] at e1 e2
  obtain ⟨rfl, rfl, rfl, rfl⟩ := e1
  obtain ⟨rfl, rfl, rfl, rfl⟩ := e2
  have HZ1 := Lib.hid S1.out.siz
  clear hx hy x0 x1 x2 S1
  have sz := S2.out.siz
  obtain ⟨v0, t0⟩ := Option.isSome_iff_exists.1 (S2.out.th 0 (by decide)).1
  have z0 := (S2.out.th 0 (by decide)).2
  obtain ⟨v1, t1⟩ := Option.isSome_iff_exists.1 (S2.out.th 1 (by decide)).1
  have z1 := (S2.out.th 1 (by decide)).2
  obtain ⟨v2, t2⟩ := Option.isSome_iff_exists.1 (S2.out.th 2 (by decide)).1
  have z2 := (S2.out.th 2 (by decide)).2
  obtain ⟨v3, t3⟩ := Option.isSome_iff_exists.1 (S2.out.th 3 (by decide)).1
  have z3 := (S2.out.th 3 (by decide)).2
  obtain ⟨v4, t4⟩ := Option.isSome_iff_exists.1 (S2.out.th 4 (by decide)).1
  have z4 := (S2.out.th 4 (by decide)).2
  obtain ⟨v5, t5⟩ := Option.isSome_iff_exists.1 (S2.out.th 5 (by decide)).1
  have z5 := (S2.out.th 5 (by decide)).2
  obtain ⟨v6, t6⟩ := Option.isSome_iff_exists.1 (S2.out.th 6 (by decide)).1
  have z6 := (S2.out.th 6 (by decide)).2
  obtain ⟨v7, t7⟩ := Option.isSome_iff_exists.1 (S2.out.th 7 (by decide)).1
  have z7 := (S2.out.th 7 (by decide)).2
  obtain ⟨v8, t8⟩ := Option.isSome_iff_exists.1 (S2.out.th 8 (by decide)).1
  have z8 := (S2.out.th 8 (by decide)).2
  obtain ⟨v9, t9⟩ := Option.isSome_iff_exists.1 (S2.out.th 9 (by decide)).1
  have z9 := (S2.out.th 9 (by decide)).2
  simp only [Nat.zero_add] at t0 z0 t1 z1 t2 z2 t3 z3 t4 z4 t5 z5 t6 z6 t7 z7 t8 z8 t9 z9
  obtain ⟨f1, hf1⟩ : ∃ f, flE ws s id n 1 = f := ⟨_, rfl⟩
  obtain ⟨f2, hf2⟩ : ∃ f, flE ws s id n (-1) = f := ⟨_, rfl⟩
  have HF := Lib.hid (And.intro hf1 hf2)
  rw [hf1, hf2]
  clear hf1 hf2 bb2
  obtain ⟨x, hx⟩ : ∃ x, exW ws s (endE ws id) 1 = x := ⟨_, rfl⟩
  obtain ⟨y, hy⟩ : ∃ y, exW ws s (endE ws id) (-1) = y := ⟨_, rfl⟩
  have HE := Lib.hid (And.intro hx hy)
  rw [hx] at HX ⊢
  rw [hy] at HY ⊢
  clear hx hy
  go_wp2_with fail
  clear t0 z0 t1 z1 t2 z2 t3 z3 t4 z4 t5 z5 t6 z6 t7 z7 t8 z8 t9 z9
  obtain ⟨W8, hW8⟩ : ∃ W8, ((((((((((w2.setCell ⟨w.heap.size + 1 + 1, 0, none⟩ (.int .i64 f1)).setCell ⟨w.heap.size + 1 + 1, 1, none⟩ (.int .i64 f2)).setCell ⟨w.heap.size + 1 + 1, 2, none⟩ (.slice A1_ x.river.length c1_)).setCell ⟨w.heap.size + 1 + 1, 3, none⟩ (.slice A2_ x.boards.length c2_)).setCell ⟨w.heap.size + 1 + 1, 4, none⟩ (.slice A3_ x.leaks.length c3_)).setCell ⟨w.heap.size + 1 + 1, 5, none⟩ (.slice A4_ x.losses.length c4_)).setCell ⟨w.heap.size + 1 + 1, 6, none⟩ (.slice B1_ y.river.length k1_)).setCell ⟨w.heap.size + 1 + 1, 7, none⟩ (.slice B2_ y.boards.length k2_)).setCell ⟨w.heap.size + 1 + 1, 8, none⟩ (.slice B3_ y.leaks.length k3_)).setCell ⟨w.heap.size + 1 + 1, 9, none⟩ (.slice B4_ y.losses.length k4_)) = W8 := ⟨_, rfl⟩
  have e8 : w2.setCells (w.heap.size + 1 + 1) 0 [.int .i64 f1, .int .i64 f2, .slice A1_ x.river.length c1_, .slice A2_ x.boards.length c2_, .slice A3_ x.leaks.length c3_, .slice A4_ x.losses.length c4_, .slice B1_ y.river.length k1_, .slice B2_ y.boards.length k2_, .slice B3_ y.leaks.length k3_, .slice B4_ y.losses.length k4_] = W8 := hW8
  have r8 : W8.rangeAt (w.heap.size + 1 + 1) 0 [.int .i64 f1, .int .i64 f2, .slice A1_ x.river.length c1_, .slice A2_ x.boards.length c2_, .slice A3_ x.leaks.length c3_, .slice A4_ x.losses.length c4_, .slice B1_ y.river.length k1_, .slice B2_ y.boards.length k2_, .slice B3_ y.leaks.length k3_, .slice B4_ y.losses.length k4_] := by rw [← e8]; exact World.rangeAt_setCells_same _ _ _ _ S2.out.th
  have g8 : GrownL [w.heap.size + 2] w2 W8 := by rw [← e8]; exact GrownL.setCells _ _ _ _ _ (by simp)
  rw [hW8]
  have c0 := r8 0 _ rfl
  have c1 := r8 1 _ rfl
  have c2 := r8 2 _ rfl
  have c3 := r8 3 _ rfl
  have c4 := r8 4 _ rfl
  have c5 := r8 5 _ rfl
  have c6 := r8 6 _ rfl
  have c7 := r8 7 _ rfl
  have c8 := r8 8 _ rfl
  have c9 := r8 9 _ rfl
  simp only [Nat.zero_add] at c0 c1 c2 c3 c4 c5 c6 c7 c8 c9
  have GB := S2.out.bel.trans (g8.below (B := w.heap.size) (by simp) S2.out.bel.size)
  refine bodyPost_ret (v := .tuple #[.agg #[.int .i64 f1, .int .i64 f2, .slice A1_ x.river.length c1_, .slice A2_ x.boards.length c2_, .slice A3_ x.leaks.length c3_, .slice A4_ x.losses.length c4_, .slice B1_ y.river.length k1_, .slice B2_ y.boards.length k2_, .slice B3_ y.leaks.length k3_, .slice B4_ y.losses.length k4_], .int .i64 0]) (by simp [results, Try.results25, go_sem, c0, c1, c2, c3, c4, c5, c6, c7, c8, c9]) rfl ⟨_, rfl, ⟨_, _, _, _, _, _, _, _, by rw [okN_zero, okN_zero, Int.toNat_natCast, HF.out.1, HF.out.2], ?_, ?_⟩, GB⟩
  ·rw [show okWa 0 (exW ws s (endE ws id) 1) = x from HE.out.1]; exact (HX.out.grown g8 (fun b hb _ hm => by have := HZ1.out; simp at hm; omega)).low (by have := HZ1.out; omega)
  ·rw [show okWa 0 (exW ws s (endE ws id) (-1)) = y from HE.out.2]; exact (HY.out.grown g8 (fun b hb _ hm => by have := HZ1.out; simp at hm; omega)).low (by have := HZ1.out; omega)
 ·have HD0 := Lib.hid hd0
  have z0 := (S1.out.th 0 (by decide)).2
  have z1 := (S1.out.th 1 (by decide)).2
  have z2 := (S1.out.th 2 (by decide)).2
  have z3 := (S1.out.th 3 (by decide)).2
  have z4 := (S1.out.th 4 (by decide)).2
  have z5 := (S1.out.th 5 (by decide)).2
  have z6 := (S1.out.th 6 (by decide)).2
  have z7 := (S1.out.th 7 (by decide)).2
  have z8 := (S1.out.th 8 (by decide)).2
  have z9 := (S1.out.th 9 (by decide)).2
  simp only [Nat.zero_add] at z0 z1 z2 z3 z4 z5 z6 z7 z8 z9
  go_wp2_with fail
  clear r0 z0 r1 z1 r2 z2 r3 z3 r4 z4 r5 z5 r6 z6 r7 z7 r8 z8 r9 z9
  obtain ⟨W8, hW8⟩ : ∃ W8, ((((((((((w1.setCell ⟨w.heap.size + 1 + 1, 0, none⟩ (.int .i64 0)).setCell ⟨w.heap.size + 1 + 1, 1, none⟩ (.int .i64 0)).setCell ⟨w.heap.size + 1 + 1, 2, none⟩ (.slice none 0 0)).setCell ⟨w.heap.size + 1 + 1, 3, none⟩ (.slice none 0 0)).setCell ⟨w.heap.size + 1 + 1, 4, none⟩ (.slice none 0 0)).setCell ⟨w.heap.size + 1 + 1, 5, none⟩ (.slice none 0 0)).setCell ⟨w.heap.size + 1 + 1, 6, none⟩ (.slice none 0 0)).setCell ⟨w.heap.size + 1 + 1, 7, none⟩ (.slice none 0 0)).setCell ⟨w.heap.size + 1 + 1, 8, none⟩ (.slice none 0 0)).setCell ⟨w.heap.size + 1 + 1, 9, none⟩ (.slice none 0 0)) = W8 := ⟨_, rfl⟩
  have e8 : w1.setCells (w.heap.size + 1 + 1) 0 [.int .i64 0, .int .i64 0, .slice none 0 0, .slice none 0 0, .slice none 0 0, .slice none 0 0, .slice none 0 0, .slice none 0 0, .slice none 0 0, .slice none 0 0] = W8 := hW8
  have r8 : W8.rangeAt (w.heap.size + 1 + 1) 0 [.int .i64 0, .int .i64 0, .slice none 0 0, .slice none 0 0, .slice none 0 0, .slice none 0 0, .slice none 0 0, .slice none 0 0, .slice none 0 0, .slice none 0 0] := by rw [← e8]; exact World.rangeAt_setCells_same _ _ _ _ S1.out.th
  have g8 : GrownL [w.heap.size + 2] w1 W8 := by rw [← e8]; exact GrownL.setCells _ _ _ _ _ (by simp)
  rw [hW8]
  have c0 := r8 0 _ rfl
  have c1 := r8 1 _ rfl
  have c2 := r8 2 _ rfl
  have c3 := r8 3 _ rfl
  have c4 := r8 4 _ rfl
  have c5 := r8 5 _ rfl
  have c6 := r8 6 _ rfl
  have c7 := r8 7 _ rfl
  have c8 := r8 8 _ rfl
  have c9 := r8 9 _ rfl
  simp only [Nat.zero_add] at c0 c1 c2 c3 c4 c5 c6 c7 c8 c9
  have GB := S1.out.bel.trans (g8.below (B := w.heap.size) (by simp) S1.out.bel.size)
  refine bodyPost_ret (v := .tuple #[.agg #[.int .i64 0, .int .i64 0, .slice none 0 0, .slice none 0 0, .slice none 0 0, .slice none 0 0, .slice none 0 0, .slice none 0 0, .slice none 0 0, .slice none 0 0], .int .i64 d]) (by simp [results, Try.results25, go_sem, c0, c1, c2, c3, c4, c5, c6, c7, c8, c9]) rfl ⟨_, rfl, ⟨_, _, _, _, _, _, _, _, by rw [okN_ne HD0.out, okN_ne HD0.out], ?_, ?_⟩, GB⟩
  ·rw [show okWa d (exW ws s (endE ws id) 1) = ⟨[], [], [], []⟩ from if_neg HD0.out]; exact OW.nil _ _
  ·rw [show okWa d (exW ws s (endE ws id) (-1)) = ⟨[], [], [], []⟩ from if_neg HD0.out]; exact OW.nil _ _
end Go.Proofs.Ytkoacclbempmdaa
