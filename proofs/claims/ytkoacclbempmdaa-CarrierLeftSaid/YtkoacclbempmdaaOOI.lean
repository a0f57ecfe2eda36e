/- endsOf: what it keeps, a supply in a block of its own. -/
import Derived.Test.YtkoacclbempmdaaOOH
namespace Go.Proofs.Ytkoacclbempmdaa
open Go.RowKit
attribute [local go_sem] Oper.semAt_some

/-- What flows through an outlet at an end. -/
noncomputable def flE (ws : Wk) (s : Ca) (id : Int) (i : Nat) (way : Int) : Int := (flowF ws (exW ws s (endE ws id) way)).thr.getD i 0
theorem FstIs.find {ws : Wk} {id a b c : Int} {f : Bool} {i : Nat} {p : Pl} (hf : FstIs (fun o : Ou => o.id) (outs ws) id i) (hp : (allP ws)[i]? = some p) (h : FindR ws id a b c f) : a = i ∧ b = p.c ∧ c = p.n ∧ f = true := by
 rcases h with ⟨j, q, h1, h2, rfl, rfl, rfl, rfl⟩ | ⟨h1, -⟩
 ·have e : (j : Int) = i := h1.unique hf
  have : j = i := by omega
  subst this
  rw [hp] at h2
  cases h2
  exact ⟨rfl, rfl, rfl, rfl⟩
 ·have e : (-1 : Int) = i := h1.unique hf
  omega

/-- What endsOf keeps. -/
structure EnS (w : World) (v a b : Value) (W : World) : Prop where
 wk : W.cell? ⟨w.heap.size, 0, none⟩ = some v
 ca : W.cell? ⟨w.heap.size + 1, 0, none⟩ = some a
 cb : W.cell? ⟨w.heap.size + 1, 1, none⟩ = some b
 th : W.there (w.heap.size + 1 + 1) 0 10
 bel : Below w.heap.size w W
theorem there_below {W W' : World} {b n : Nat} (h : W.there b 0 n) (hl : b < W.heap.size) (hb : Below W.heap.size W W') : W'.there b 0 n := fun j hj => by
 obtain ⟨h1, h2⟩ := h j hj
 exact ⟨by rw [hb.cell (p := ⟨b, 0 + j, none⟩) hl]; exact h1, (hb.frozen (p := ⟨b, 0 + j, none⟩) hl).trans h2⟩
theorem there_grown {W W' : World} {bs : List Nat} {b n : Nat} (h : W.there b 0 n) (hl : b < W.heap.size) (hg : GrownL bs W W') (hn : b ∉ bs) : W'.there b 0 n := fun j hj => by
 obtain ⟨h1, h2⟩ := h j hj
 obtain ⟨u, hu⟩ := Option.isSome_iff_exists.1 h1
 exact ⟨by rw [hg.cell hu hn]; rfl, (World.frozen?_of_block (a := ⟨b, 0 + j, none⟩) (hg.block b hl hn)).trans h2⟩
theorem there_lt {W : World} {b n : Nat} (h : W.there b 0 n) (hn : 0 < n) : b < W.heap.size := by
 obtain ⟨u, hu⟩ := Option.isSome_iff_exists.1 (h 0 hn).1
 exact World.block_lt_of_cell? _ _ hu
theorem EnS.siz {w W : World} {v a b : Value} (h : EnS w v a b W) : w.heap.size + 3 ≤ W.heap.size := there_lt h.th (by decide)
theorem EnS.grown {w W W' : World} {v a b : Value} {bs : List Nat} (h : EnS w v a b W) (hg : GrownL bs W W') (hn : ∀ k ∈ bs, w.heap.size + 3 ≤ k) : EnS w v a b W' := by
 have nb : ∀ k, k ≤ w.heap.size + 2 → k ∉ bs := fun k hk hm => by have := hn k hm; omega
 exact ⟨hg.cell h.wk (nb _ (by show w.heap.size ≤ _; omega)), hg.cell h.ca (nb _ (by show w.heap.size + 1 ≤ _; omega)), hg.cell h.cb (nb _ (by show w.heap.size + 1 ≤ _; omega)), there_grown h.th (there_lt h.th (by decide)) hg (nb _ (by omega)), h.bel.trans (hg.below (fun b hb => by have := hn b hb; omega) h.bel.size)⟩
theorem EnS.below {w W W' : World} {v a b : Value} (h : EnS w v a b W) (hb : Below W.heap.size W W') : EnS w v a b W' := h.grown (GrownL.of_below (bs := []) hb) (by simp)

section
variable {P : Program} {ops : Array Oper} {Q : Exit → Act → World → Prop} {md : Region.Mode} {S : World → Prop} {z : Nat}
/-- Two can come up. -/
theorem twoT {i j : Nat} {oi oj : Oper} {fuel : Nat} {listed : Array Bool} {a : Act} {w : World} (hr : Region.ready md ops listed = [i, j]) (hi : ops[i]? = some oi) (hj : ops[j]? = some oj)
  (h1 : ∀ K' : Act → World → Prop, Shut (∀ a w, S w → wpAnyT P md ops Q S z fuel (listed.setIfInBounds i true) a w → K' a w) → if Region.wanted oi (yielded ops a.tmps) = true then Oper.wp P oi a w K' Q else K' (a.put oi.dst undef) w)
  (h2 : ∀ K' : Act → World → Prop, Shut (∀ a w, S w → wpAnyT P md ops Q S z fuel (listed.setIfInBounds j true) a w → K' a w) → if Region.wanted oj (yielded ops a.tmps) = true then Oper.wp P oj a w K' Q else K' (a.put oj.dst undef) w) : wpAnyT P md ops Q S z (fuel + 1) listed a w := by
 refine ⟨fun h0 => (by rw [hr] at h0; cases h0), fun k hk => ?_⟩
 rw [hr] at hk
 rcases List.mem_cons.1 hk with rfl | hk
 ·exact wpOp_step hi (fun K' hK => h1 K' (fun a w hS hW => hK a w ⟨.inr hS, hW⟩))
 ·rw [List.mem_singleton] at hk
  subst hk
  exact wpOp_step hj (fun K' hK => h2 K' (fun a w hS hW => hK a w ⟨.inr hS, hW⟩))
end
/-- Water whose lists are of one's own, from a block on. -/
def OW (base : Nat) (v : Value) (x : Wa) (W : World) : Prop := ∃ a b c d, v = .agg #[a, b, c, d] ∧ OwnG encI 1 3 base a x.river W ∧ OwnG encI 1 3 base b x.boards W ∧ OwnG encI 1 3 base c x.leaks W ∧ OwnG encI 1 3 base d x.losses W ∧ x.river.length ≤ 1000 ∧ x.boards.length ≤ 1000 ∧ x.leaks.length ≤ 1000 ∧ x.losses.length ≤ 1000
theorem OW.rwa {base : Nat} {v : Value} {x : Wa} {W : World} (h : OW base v x W) : RWa W.heap.size v x W := by
 obtain ⟨a, b, c, d, e, h1, h2, h3, h4, l1, l2, l3, l4⟩ := h
 exact ⟨a, b, c, d, e, h1.rr EI (by omega), h2.rr EI (by omega), h3.rr EI (by omega), h4.rr EI (by omega)⟩
theorem OW.low {base base' : Nat} {v : Value} {x : Wa} {W : World} (h : OW base v x W) (hb : base' ≤ base) : OW base' v x W := by
 obtain ⟨a, b, c, d, e, h1, h2, h3, h4, l⟩ := h
 exact ⟨a, b, c, d, e, h1.low hb, h2.low hb, h3.low hb, h4.low hb, l⟩
theorem OW.grown {base : Nat} {v : Value} {x : Wa} {W W' : World} {bs : List Nat} (h : OW base v x W) (hg : GrownL bs W W') (hn : ∀ b, base ≤ b → b < W.heap.size → b ∉ bs) : OW base v x W' := by
 obtain ⟨a, b, c, d, e, h1, h2, h3, h4, l⟩ := h
 exact ⟨a, b, c, d, e, h1.grown hg (fun b hb => hn b (h1.lt b hb).1 (h1.lt b hb).2), h2.grown hg (fun b hb => hn b (h2.lt b hb).1 (h2.lt b hb).2), h3.grown hg (fun b hb => hn b (h3.lt b hb).1 (h3.lt b hb).2), h4.grown hg (fun b hb => hn b (h4.lt b hb).1 (h4.lt b hb).2), l⟩
theorem OW.below {base : Nat} {v : Value} {x : Wa} {W W' : World} (h : OW base v x W) (hb : Below W.heap.size W W') : OW base v x W' := h.grown (GrownL.of_below (bs := []) hb) (by simp)
theorem OW.nil (base : Nat) (W : World) : OW base (.agg #[.slice none 0 0, .slice none 0 0, .slice none 0 0, .slice none 0 0]) ⟨[], [], [], []⟩ W := ⟨_, _, _, _, rfl, OwnG.nil _ _ _ _ _, OwnG.nil _ _ _ _ _, OwnG.nil _ _ _ _ _, OwnG.nil _ _ _ _ _, by simp, by simp, by simp, by simp⟩
theorem OW.form {base : Nat} {v : Value} {x : Wa} {W : World} (h : OW base v x W) : ∃ A1 c1 A2 c2 A3 c3 A4 c4, v = .agg #[.slice A1 x.river.length c1, .slice A2 x.boards.length c2, .slice A3 x.leaks.length c3, .slice A4 x.losses.length c4] := h.rwa.form
/-- A supply in a block of its own. -/
structure EnR (W4 : World) (g : Nat) (lo hi : Int) (a1 a2 a3 a4 d1 d2 d3 d4 : Value) (x y : Wa) (W : World) : Prop where
 ge : W4.heap.size ≤ g
 bel : Below W4.heap.size W4 W
 th : W.there g 0 10
 r : W.rangeAt g 0 [.int .i64 lo, .int .i64 hi, a1, a2, a3, a4, d1, d2, d3, d4]
 o1 : OwnG encI 1 3 W4.heap.size a1 x.river W
 o2 : OwnG encI 1 3 W4.heap.size a2 x.boards W
 o3 : OwnG encI 1 3 W4.heap.size a3 x.leaks W
 o4 : OwnG encI 1 3 W4.heap.size a4 x.losses W
 p1 : OwnG encI 1 3 W4.heap.size d1 y.river W
 p2 : OwnG encI 1 3 W4.heap.size d2 y.boards W
 p3 : OwnG encI 1 3 W4.heap.size d3 y.leaks W
 p4 : OwnG encI 1 3 W4.heap.size d4 y.losses W
 n : ∀ v ∈ [a1, a2, a3, a4, d1, d2, d3, d4], v.ownBlock ≠ some g
section
variable {W4 W W' : World} {g : Nat} {lo hi : Int} {a1 a2 a3 a4 d1 d2 d3 d4 : Value} {x y : Wa}
theorem EnR.glt (h : EnR W4 g lo hi a1 a2 a3 a4 d1 d2 d3 d4 x y W) : g < W.heap.size := there_lt h.th (by decide)
theorem EnR.below (h : EnR W4 g lo hi a1 a2 a3 a4 d1 d2 d3 d4 x y W) (hb : Below W.heap.size W W') : EnR W4 g lo hi a1 a2 a3 a4 d1 d2 d3 d4 x y W' :=
 ⟨h.ge, h.bel.trans (hb.mono h.bel.size), there_below h.th h.glt hb, fun j v hj => (hb.cell (p := ⟨g, 0 + j, none⟩) h.glt).trans (h.r j v hj), h.o1.below hb, h.o2.below hb, h.o3.below hb, h.o4.below hb, h.p1.below hb, h.p2.below hb, h.p3.below hb, h.p4.below hb, h.n⟩
theorem EnR.one (h : EnR W4 g lo hi a1 a2 a3 a4 d1 d2 d3 d4 x y W) (e : Int) : EnR W4 g e hi a1 a2 a3 a4 d1 d2 d3 d4 x y (W.setCell ⟨g, 0, none⟩ (.int .i64 e)) ∧ EnR W4 g lo e a1 a2 a3 a4 d1 d2 d3 d4 x y (W.setCell ⟨g, 1, none⟩ (.int .i64 e)) := by
 have nn := fun k (hk : k < 8) => h.n _ (List.getElem_mem (l := [a1, a2, a3, a4, d1, d2, d3, d4]) (n := k) hk)
 have key : ∀ k, k < 2 → GrownL [g] W (W.setCell ⟨g, k, none⟩ (.int .i64 e)) ∧ Below W4.heap.size W4 (W.setCell ⟨g, k, none⟩ (.int .i64 e)) ∧ (W.setCell ⟨g, k, none⟩ (.int .i64 e)).there g 0 10 := fun k hk => by
  have gs : GrownL [g] W (W.setCell ⟨g, k, none⟩ (.int .i64 e)) := GrownL.set _ _ _ (by simp)
  refine ⟨gs, h.bel.trans (gs.below (by have := h.ge; simp; omega) h.bel.size), fun j hj => ?_⟩
  obtain ⟨h1, h2⟩ := h.th j hj
  refine ⟨?_, (World.frozen?_setCell _ _ _ _).trans h2⟩
  by_cases ej : 0 + j = k
  ·rw [ej] at h1 ⊢
   rw [World.cell?_setCell_same' _ _ _ h1]; rfl
  ·rw [World.cell?_setCell_other _ ⟨g, k, none⟩ ⟨g, 0 + j, none⟩ _ (by simp <;> omega)]; exact h1
 have ow : ∀ k (hk : k < 2) v l, v ∈ [a1, a2, a3, a4, d1, d2, d3, d4] → OwnG encI 1 3 W4.heap.size v l W → OwnG encI 1 3 W4.heap.size v l (W.setCell ⟨g, k, none⟩ (.int .i64 e)) := fun k hk v l hv ho => ho.grown (key k hk).1 (fun b hb hm => by rw [List.mem_singleton] at hm; subst hm; exact h.n v hv hb)
 have rr : ∀ k, k < 2 → ∀ (j : Nat) v, ([.int .i64 lo, .int .i64 hi, a1, a2, a3, a4, d1, d2, d3, d4] : List Value)[j]? = some v → j ≠ k → (W.setCell ⟨g, k, none⟩ (.int .i64 e)).cell? ⟨g, 0 + j, none⟩ = some v := fun k hk j v hj hjk => by
  rw [World.cell?_setCell_other _ ⟨g, k, none⟩ ⟨g, 0 + j, none⟩ _ (by simp <;> omega)]; exact h.r j v hj
 have sm : ∀ k, k < 2 → (W.setCell ⟨g, k, none⟩ (.int .i64 e)).cell? ⟨g, 0 + k, none⟩ = some (.int .i64 e) := fun k hk => by
  rw [Nat.zero_add]
  have := (h.th k (by omega)).1
  rw [Nat.zero_add] at this
  exact World.cell?_setCell_same' _ _ _ this
 refine ⟨⟨h.ge, (key 0 (by decide)).2.1, (key 0 (by decide)).2.2, fun j v hj => ?_, ow 0 (by decide) _ _ (by simp) h.o1, ow 0 (by decide) _ _ (by simp) h.o2, ow 0 (by decide) _ _ (by simp) h.o3, ow 0 (by decide) _ _ (by simp) h.o4, ow 0 (by decide) _ _ (by simp) h.p1, ow 0 (by decide) _ _ (by simp) h.p2, ow 0 (by decide) _ _ (by simp) h.p3, ow 0 (by decide) _ _ (by simp) h.p4, h.n⟩,
  ⟨h.ge, (key 1 (by decide)).2.1, (key 1 (by decide)).2.2, fun j v hj => ?_, ow 1 (by decide) _ _ (by simp) h.o1, ow 1 (by decide) _ _ (by simp) h.o2, ow 1 (by decide) _ _ (by simp) h.o3, ow 1 (by decide) _ _ (by simp) h.o4, ow 1 (by decide) _ _ (by simp) h.p1, ow 1 (by decide) _ _ (by simp) h.p2, ow 1 (by decide) _ _ (by simp) h.p3, ow 1 (by decide) _ _ (by simp) h.p4, h.n⟩⟩
 ·match j, hj with
  | 0, hj => cases hj; exact sm 0 (by decide)
  | 1, hj => exact rr 0 (by decide) 1 v hj (by decide)
  | j + 2, hj => exact rr 0 (by decide) (j + 2) v hj (by omega)
 ·match j, hj with
  | 0, hj => exact rr 1 (by decide) 0 v hj (by decide)
  | 1, hj => cases hj; exact sm 1 (by decide)
  | j + 2, hj => exact rr 1 (by decide) (j + 2) v hj (by omega)
theorem EnR.wa1 {ws : Wk} {s : Ca} {id : Int} {i : Nat} (h : EnR W4 g lo hi a1 a2 a3 a4 d1 d2 d3 d4 x y W) (hx : WaOk ws x ∧ WaOk ws y ∧ (flowF ws x).thr.getD i 0 = flE ws s id i 1 ∧ (flowF ws y).thr.getD i 0 = flE ws s id i (-1) ∧ exW ws s (endE ws id) 1 = x ∧ exW ws s (endE ws id) (-1) = y) (hw : WOk ws) : RWa W.heap.size (.agg #[a1, a2, a3, a4]) x W := by
 have := headsL_len hw
 have := hx.1.r
 have := hx.1.b
 have := hx.1.k
 have := hx.1.l
 have := hw.tot
 simp [headsL] at *
 exact ⟨_, _, _, _, rfl, h.o1.rr EI (by omega), h.o2.rr EI (by omega), h.o3.rr EI (by omega), h.o4.rr EI (by omega)⟩
theorem EnR.wa2 {ws : Wk} {s : Ca} {id : Int} {i : Nat} (h : EnR W4 g lo hi a1 a2 a3 a4 d1 d2 d3 d4 x y W) (hx : WaOk ws x ∧ WaOk ws y ∧ (flowF ws x).thr.getD i 0 = flE ws s id i 1 ∧ (flowF ws y).thr.getD i 0 = flE ws s id i (-1) ∧ exW ws s (endE ws id) 1 = x ∧ exW ws s (endE ws id) (-1) = y) (hw : WOk ws) : RWa W.heap.size (.agg #[d1, d2, d3, d4]) y W := by
 have := headsL_len hw
 have := hx.2.1.r
 have := hx.2.1.b
 have := hx.2.1.k
 have := hx.2.1.l
 have := hw.tot
 simp [headsL] at *
 exact ⟨_, _, _, _, rfl, h.p1.rr EI (by omega), h.p2.rr EI (by omega), h.p3.rr EI (by omega), h.p4.rr EI (by omega)⟩
theorem EnR.reads {ws : Wk} {s : Ca} {id : Int} {i : Nat} {bs : List Nat} (h : EnR W4 g lo hi a1 a2 a3 a4 d1 d2 d3 d4 x y W) (hg : GrownL bs W W') (hb : ∀ b, W4.heap.size ≤ b → b ∉ bs)
  (hx : WaOk ws x ∧ WaOk ws y ∧ (flowF ws x).thr.getD i 0 = flE ws s id i 1 ∧ (flowF ws y).thr.getD i 0 = flE ws s id i (-1) ∧ exW ws s (endE ws id) 1 = x ∧ exW ws s (endE ws id) (-1) = y) (hw : WOk ws) : OW W4.heap.size (.agg #[a1, a2, a3, a4]) x W' ∧ OW W4.heap.size (.agg #[d1, d2, d3, d4]) y W' := by
 have := headsL_len hw
 have := hx.1.r
 have := hx.1.b
 have := hx.1.k
 have := hx.1.l
 have := hx.2.1.r
 have := hx.2.1.b
 have := hx.2.1.k
 have := hx.2.1.l
 have := hw.tot
 have ow : ∀ v l, OwnG encI 1 3 W4.heap.size v l W → OwnG encI 1 3 W4.heap.size v l W' := fun v l ho => ho.grown hg (fun b hb' => hb b (ho.lt b hb').1)
 simp [headsL] at *
 exact ⟨⟨_, _, _, _, rfl, ow _ _ h.o1, ow _ _ h.o2, ow _ _ h.o3, ow _ _ h.o4, by omega, by omega, by omega, by omega⟩, ⟨_, _, _, _, rfl, ow _ _ h.p1, ow _ _ h.p2, ow _ _ h.p3, ow _ _ h.p4, by omega, by omega, by omega, by omega⟩⟩
/-- It is made by one store. -/
theorem EnR.make (ge : W4.heap.size ≤ g) (bel : Below W4.heap.size W4 W) (th : W.there g 0 10) (lo hi : Int)
  (o1 : OwnG encI 1 3 W4.heap.size a1 x.river W) (o2 : OwnG encI 1 3 W4.heap.size a2 x.boards W) (o3 : OwnG encI 1 3 W4.heap.size a3 x.leaks W) (o4 : OwnG encI 1 3 W4.heap.size a4 x.losses W)
  (p1 : OwnG encI 1 3 W4.heap.size d1 y.river W) (p2 : OwnG encI 1 3 W4.heap.size d2 y.boards W) (p3 : OwnG encI 1 3 W4.heap.size d3 y.leaks W) (p4 : OwnG encI 1 3 W4.heap.size d4 y.losses W) (n : ∀ v ∈ [a1, a2, a3, a4, d1, d2, d3, d4], v.ownBlock ≠ some g) :
  EnR W4 g lo hi a1 a2 a3 a4 d1 d2 d3 d4 x y (W.setCells g 0 [.int .i64 lo, .int .i64 hi, a1, a2, a3, a4, d1, d2, d3, d4]) := by
 have gs : GrownL [g] W (W.setCells g 0 [.int .i64 lo, .int .i64 hi, a1, a2, a3, a4, d1, d2, d3, d4]) := GrownL.setCells _ _ _ _ _ (by simp)
 have ow : ∀ v l, v ∈ [a1, a2, a3, a4, d1, d2, d3, d4] → OwnG encI 1 3 W4.heap.size v l W → OwnG encI 1 3 W4.heap.size v l (W.setCells g 0 [.int .i64 lo, .int .i64 hi, a1, a2, a3, a4, d1, d2, d3, d4]) := fun v l hv ho => ho.grown gs (fun b hb hm => by rw [List.mem_singleton] at hm; subst hm; exact n v hv hb)
 exact ⟨ge, bel.trans (gs.below (by simp; omega) bel.size), World.there_setCells th _ _ _, World.rangeAt_setCells_same _ _ _ _ th, ow _ _ (by simp) o1, ow _ _ (by simp) o2, ow _ _ (by simp) o3, ow _ _ (by simp) o4, ow _ _ (by simp) p1, ow _ _ (by simp) p2, ow _ _ (by simp) p3, ow _ _ (by simp) p4, n⟩
end
theorem oneI {base : Nat} {v : Value} {l : List Int} {W : World} (h : OwnG encI 1 3 base v l W) : v.oneCell' = true := by
 obtain ⟨A, c, rfl, -⟩ := h.form
 rfl
theorem tenOne {n : Nat} {a1 a2 a3 a4 d1 d2 d3 d4 : Value} {x1 x2 x3 x4 y1 y2 y3 y4 : List Int} {W : World} (o1 : OwnG encI 1 3 n a1 x1 W) (o2 : OwnG encI 1 3 n a2 x2 W) (o3 : OwnG encI 1 3 n a3 x3 W) (o4 : OwnG encI 1 3 n a4 x4 W) (p1 : OwnG encI 1 3 n d1 y1 W) (p2 : OwnG encI 1 3 n d2 y2 W) (p3 : OwnG encI 1 3 n d3 y3 W) (p4 : OwnG encI 1 3 n d4 y4 W) {lo hi : Int} :
  (#[.int .i64 lo, .int .i64 hi, a1, a2, a3, a4, d1, d2, d3, d4] : Array Value).all (·.oneCell') = true :=
 all_oneCell_toArray (cs := [.int .i64 lo, .int .i64 hi, a1, a2, a3, a4, d1, d2, d3, d4]) (fun v hv => by
  simp only [List.mem_cons, List.not_mem_nil, or_false] at hv
  rcases hv with rfl | rfl | rfl | rfl | rfl | rfl | rfl | rfl | rfl | rfl
  ·rfl
  ·rfl
  ·exact oneI o1
  ·exact oneI o2
  ·exact oneI o3
  ·exact oneI o4
  ·exact oneI p1
  ·exact oneI p2
  ·exact oneI p3
  ·exact oneI p4)
theorem tenZ (W : World) : (W.alloc (.cells #[.int .i64 0, .int .i64 0, .slice none 0 0, .slice none 0 0, .slice none 0 0, .slice none 0 0, .slice none 0 0, .slice none 0 0, .slice none 0 0, .slice none 0 0] 50)).there W.heap.size 0 10 := fun j hj => by
 match j, hj with
 | 0, _ => exact ⟨by simp [go_sem], by simp [go_sem]⟩
 | 1, _ => exact ⟨by simp [go_sem], by simp [go_sem]⟩
 | 2, _ => exact ⟨by simp [go_sem], by simp [go_sem]⟩
 | 3, _ => exact ⟨by simp [go_sem], by simp [go_sem]⟩
 | 4, _ => exact ⟨by simp [go_sem], by simp [go_sem]⟩
 | 5, _ => exact ⟨by simp [go_sem], by simp [go_sem]⟩
 | 6, _ => exact ⟨by simp [go_sem], by simp [go_sem]⟩
 | 7, _ => exact ⟨by simp [go_sem], by simp [go_sem]⟩
 | 8, _ => exact ⟨by simp [go_sem], by simp [go_sem]⟩
 | 9, _ => exact ⟨by simp [go_sem], by simp [go_sem]⟩
 | j + 10, hj => omega
end Go.Proofs.Ytkoacclbempmdaa
