/- What the texts on spans have in common. -/
import Derived.Test.YtkoacclbempmdaaOOK
import Derived.Test.YtkoacclbempmdaaGZD
import Derived.Test.YtkoacclbempmdaaOO6
import Derived.Test.YtkoacclbempmdaaGJ
import Derived.Test.YtkoacclbempmdaaGZC
import Derived.Test.YtkoacclbempmdaaGH
import Derived.Test.YtkoacclbempmdaaGS
import Derived.Test.YtkoacclbempmdaaGL
import Derived.Test.YtkoacclbempmdaaGK
import Derived.Test.YtkoacclbempmdaaGZF
namespace Go.Proofs.Ytkoacclbempmdaa
open Go.RowKit

theorem infoSpn : (Try.prog.info? 40).map (fun i => (i.zero, i.size, i.bytes)) = some (some (.agg #[.int .i64 0, .int .i64 0]), 2, 16) := by kernel_rfl
def okS (d : Int) (l : List (Int × Int)) : List (Int × Int) := if d = 0 then l else []
theorem okS_zero (l : List (Int × Int)) : okS 0 l = l := if_pos rfl
theorem okS_ne {d : Int} (h : d ≠ 0) (l : List (Int × Int)) : okS d l = [] := if_neg h
/-- The ends of what flows through an outlet. -/
noncomputable def spF (ws : Wk) (s : Ca) (p : Pl) : Int × Int := (flE ws s p.o.id p.at_ 1, flE ws s p.o.id p.at_ (-1))
theorem two_news (W : World) (x y : Int) (t : TypeId) (i : Nat) (u : Value) (hi : ([.int .i64 x, .int .i64 y] : List Value)[i]? = some u) : (W.alloc (.cells #[.int .i64 x, .int .i64 y] t)).cell? ((⟨W.heap.size, 0, none⟩ : Addr).add i) = some u := by
 match i, hi with
 | 0, hi => simp at hi; subst hi; simp [go_sem, Addr.add]
 | 1, hi => simp at hi; subst hi; simp [go_sem, Addr.add]
 | i + 2, hi => simp at hi
theorem two_one (x y : Int) (u : Value) (hu : u ∈ ([.int .i64 x, .int .i64 y] : List Value)) : u.oneCell' = true := by simp at hu; rcases hu with rfl | rfl <;> rfl
theorem sp_snoc {W : World} {base n : Nat} {v : Value} {l : List (Int × Int)} {x y : Int} (h : W.ownsRow base 40 2 v (n + 1) (l.flatMap enc2 ++ [.int .i64 x, .int .i64 y])) (hn : l.length = n) : OwnG enc2 2 40 base v (l ++ [(x, y)]) W := by
 unfold OwnG
 rw [List.flatMap_append, List.length_append, hn]
 exact h

end Go.Proofs.Ytkoacclbempmdaa

/- Contract of Path. -/
namespace Go.Proofs.Ytkoacclbempmdaa
open Go.RowKit

theorem id_wf {ws : Wk} (hw : WOk ws) {n : Nat} {p : Pl} (hp : (allP ws)[n]? = some p) : (Lit.int .i64 p.o.id).wf = true := by
 have := hw.ou hp
 have h3 := this.i0
 have h4 := this.i1
 have m0 : IntKind.i64.min = -9223372036854775808 := rfl
 have m1 : IntKind.i64.max = 9223372036854775807 := rfl
 simp only [Lit.wf, m0, m1, Bool.and_eq_true, decide_eq_true_eq]
 omega
theorem fst_id {ws : Wk} {id : Int} {n : Nat} {p : Pl} (hf : FstIs (fun o : Ou => o.id) (outs ws) id n) (hp : (allP ws)[n]? = some p) : p.o.id = id := by
 rcases hf with ⟨k, o, ho, he, _, hk⟩ | ⟨_, h⟩
 ·obtain rfl : n = k := by omega
  rw [(outs_get hp).1] at ho
  cases ho
  exact he
 ·omega
theorem byId_all {ws : Wk} (hw : WOk ws) {n : Nat} {p : Pl} (hp : (allP ws)[n]? = some p) : byIdS ws (allP ws) p.o.id = pathV ws n := by
 have := byIdS_at hw (lt_total hp) hp
 rwa [List.take_of_length_le (by rw [allP_len]; exact Nat.le_refl _)] at this
def PathPost (d : Int) (M : List Int) (w : World) (e : Ending) (w' : World) : Prop := ∃ u, e = .returned (.tuple #[u, .int .i64 d]) ∧ OwnG encI 1 3 w.heap.size u M w' ∧ Below w.heap.size w w'
set_option maxHeartbeats 8000000 in
set_option maxRecDepth 1000000 in
theorem Path_any (v : Value) (ws : Wk) (id d : Int) (M : List Int) (w : World) (h : RK w.heap.size v ws w) (ht : total ws ≤ 100000) (hc : PathR ws id d M) :
  Calls Try.prog 50 #[.agg #[v], .int .i64 id] w (PathPost d M w) := by
 obtain ⟨A, c, rfl, -⟩ := (show ∃ A c, v = .slice A ws.length c ∧ True by obtain ⟨A, c, e, _⟩ := h; exact ⟨A, c, e, trivial⟩)
 obtain ⟨i, hk, hc⟩ := hc
 have C1 := Lib.hid fun W (S : Wd w (.slice A ws.length c) W) => checkOutlet_any (.slice A ws.length c) ws id i d W (h.up S.siz S.bel) ht hk
 have C2 := Lib.hid fun (hw : WOk ws) W (S : Wd w (.slice A ws.length c) W) => paths_any A c ws W (h.up S.siz S.bel) hw
 have S0 := Lib.hid (Wd.new (w := w) (v := .slice A ws.length c) 24)
 have HK := Lib.hid hk
 have HC := Lib.hid hc
 clear h hk hc
 go_enter Try.func50, Try.ntmps50
 go_wp2_with fail
 refine (C1.out _ S0.out).mono ?_
 rintro e w1 ⟨rfl, b1⟩
 have S := Lib.hid (S0.out.below b1)
 clear b1
 by_cases h0 : d = 0
 rotate_left
 ·have hdb : (d != 0) = true := by rw [bne_iff_ne]; exact h0
  have HM : Hid (M = []) := Lib.hid (by rcases HC.out with ⟨_, h⟩ | ⟨h, _⟩; exact h; exact absurd h h0)
  go_wp2_with fail
  refine bodyPost_ret (results_tmp2 rfl _ _ _) rfl ?_
  exact ⟨_, rfl, by rw [HM.out]; exact OwnG.nil _ _ _ _ _, S.out.bel⟩
 subst h0
 obtain ⟨n, p, rfl, hf, hp⟩ := HK.out.at_
 have hw := HK.out.chk.1
 have HW := Lib.hid hw
 obtain rfl := fst_id hf hp
 have HWF := Lib.hid (id_wf hw hp)
 have HM : Hid (M = byIdS ws (allP ws) p.o.id) := Lib.hid (by
  rcases HC.out with ⟨h, _⟩ | ⟨_, k, L, hk, hL, rfl⟩
  ·exact absurd rfl h
  ·obtain rfl : n = k := by omega
   rw [byId_all hw hp]
   unfold pathV
   rw [pathOf_eq hw hL])
 have x0 := S.out.c
 clear hw hf hp HC
 go_wp2_with fail
 refine (C2.out HW.out _ S.out).mono ?_
 rintro e w2 ⟨rfl, hpm, b2⟩
 have S2 := Lib.hid (S.out.below b2)
 obtain ⟨u, hu, hrun⟩ := hpm.look p.o.id HWF.out
 have HU := Lib.hid hu
 have hrun2 := hrun w2 rfl
 clear b2 x0 hpm hrun hu
 go_wp2_with fail
 refine bodyPost_ret (results_tmp2 rfl _ _ _) rfl ?_
 exact ⟨u, rfl, by rw [HM.out]; exact HU.out.low (by have := S.out.siz; omega), S2.out.bel⟩
end Go.Proofs.Ytkoacclbempmdaa

/- Contract of Spans. -/
namespace Go.Proofs.Ytkoacclbempmdaa
open Go.RowKit
attribute [local go_sem] Oper.semAt_some

theorem CW.grown {w W W' : World} {v a b : Value} {bs : List Nat} (h : CW w v a b W) (hg : GrownL bs W W') (hn : ∀ k ∈ bs, w.heap.size + 2 ≤ k) : CW w v a b W' := by
 have nb : ∀ k, k < w.heap.size + 2 → k ∉ bs := fun k hk hm => by have := hn k hm; omega
 exact ⟨hg.cell h.wk (nb _ (by show w.heap.size < _; omega)), hg.cell h.ca (nb _ (by show w.heap.size + 1 < _; omega)), hg.cell h.cb (nb _ (by show w.heap.size + 1 < _; omega)), h.bel.trans (hg.below (fun b hb => by have := hn b hb; omega) h.bel.size)⟩
/-- An outlet is the first one with its ID. -/
theorem fst_own {ws : Wk} (hw : WOk ws) {n : Nat} {p : Pl} (hp : (allP ws)[n]? = some p) : FstIs (fun o : Ou => o.id) (outs ws) p.o.id n := by
 refine .inl ⟨n, p.o, (outs_get hp).1, rfl, fun j o hj ho e => ?_, rfl⟩
 obtain ⟨q, hq⟩ := at_total (ws := ws) (n := j) (by have := (List.getElem?_eq_some_iff.1 ho).1; rw [outs_len] at this; exact this)
 have := (outs_get hq).1
 rw [ho] at this
 cases this
 exact (hw.one j n q p hq hp hj).1 e
section
variable {ops : Array Oper} {o : Oper} {a : Act} {w : World} {K : Act → World → Prop} {Q : Exit → Act → World → Prop} {E : Prop}
/-- One span is appended to a list of one's own, as a step of a region that draws; it says where the list lies then. -/
theorem step_appS (hg : o.guard = none) (s x : Operand) (hop : o.op = Op.call { callee := Callee.builtin Builtin.append, args := #[s, x], argTypes := #[44, 44] })
  (base : Nat) (v : Value) (xs : List (Int × Int)) (hs : a.eval s = v) (hown : OwnG enc2 2 40 base v xs w) (hxs : xs.length ≤ 1000000) (b : Nat) (y z : Int) (hx : a.eval x = .slice (some ⟨b, 0, none⟩) 1 1) (hc : w.cell? ⟨b, 0, none⟩ = some (.int .i64 y)) (hc2 : w.cell? ⟨b, 1, none⟩ = some (.int .i64 z)) (hb : base ≤ w.heap.size)
  (hK : ∀ v' w', OwnG enc2 2 40 base v' (xs ++ [(y, z)]) w' → GrownL v.ownBlock.toList w w' → (v'.ownBlock = v.ownBlock ∨ ∃ n, v'.ownBlock = some n ∧ w.heap.size ≤ n) → K (a.put o.dst v') w') :
  if Region.wanted o (yielded ops a.tmps) = true then Oper.wp Try.prog o a w K Q else E := by
 obtain ⟨i0, hz0, hj0, hj1, hj2⟩ := info_parts infoSpn
 have hw : Region.wanted o (yielded ops a.tmps) = true := by simp [Region.wanted, hg]
 rw [if_pos hw]
 obtain ⟨v', w', hrun, r1, r2, _, r5⟩ := run_append_own_at (P := Try.prog) w base 44 o.type 40 i0 (.agg #[.int .i64 0, .int .i64 0]) 2 16 Try.underlying44 hz0 hj0 hj1 hj2 rfl (by decide) v xs.length (xs.flatMap enc2) hown ⟨b, 0, none⟩ 1 1 [.int .i64 y, .int .i64 z] rfl (fun j u hj => by
  match j, hj with
  | 0, hj => simp at hj; subst hj; simpa [Addr.add] using hc
  | 1, hj => simp at hj; subst hj; simpa [Addr.add] using hc2
  | j + 2, hj => simp at hj) (fun u hu => two_one y z u hu) (by unfold maxLen; omega) (by omega) hb
 unfold Oper.wp
 simp [execOp, hop, resolve, invoke, builtin, hs, hx, hrun, Result.andThen]
 refine hK v' w' ?_ (GrownL.of_row r2) ?_
 ·unfold OwnG
  rw [List.flatMap_append, List.length_append]
  exact r1
 ·rcases r5 with h | h
  ·exact .inl h
  ·exact .inr ⟨_, h, Nat.le_refl _⟩
end

set_option maxHeartbeats 16000000 in
set_option maxRecDepth 1000000 in
theorem Spans_any (v cv : Value) (ws : Wk) (s : Ca) (d : Int) (w : World) (h : RK w.heap.size v ws w) (ht : total ws ≤ 100000) (hs : RCa w.heap.size cv s w) (hd : CasIs ws s d) :
  Calls Try.prog 27 #[.agg #[v], cv] w fun e w' => ∃ u, e = .returned (.tuple #[u, .int .i64 d]) ∧ OwnG enc2 2 40 w.heap.size u (okS d ((allP ws).map (spF ws s))) w' ∧ Below w.heap.size w w' := by
 obtain ⟨A, c, rfl, -⟩ := (show ∃ A c, v = .slice A ws.length c ∧ True by obtain ⟨A, c, e, _⟩ := h; exact ⟨A, c, e, trivial⟩)
 obtain ⟨A1, c1, A2, c2, rfl⟩ := hs.form
 have H := Lib.hid h
 have C1 := Lib.hid fun W (hb : Below w.heap.size w W) => CheckCase_any (.slice A ws.length c) _ ws s d W (h.up hb.size hb) (by omega) (hs.up hb.size hb) hd
 have C3 := Lib.hid fun (hw : WOk ws) (hc : CaOk ws s) (n : Nat) (p : Pl) (hp : (allP ws)[n]? = some p) W (hb : Below w.heap.size w W) => endsOf_any A c _ ws s p.o.id n p W (h.up hb.size hb) (hs.up hb.size hb) hw hc (id_wf hw hp) (fst_own hw hp) hp
 have S0 := Lib.hid (CW.new w (.slice A ws.length c) (.slice A1 s.river.length c1) (.slice A2 s.boards.length c2))
 have HD := Lib.hid hd
 clear h hs hd
 refine (callsIn_wide (n := 3)).1 ?_
 refine callsIn_of_wp_marks Try.func27 rfl trivial ?_ rfl
 simp only [Try.ntmps27, List.size_toArray, List.length_cons, List.length_nil, Nat.reduceAdd, Nat.reduceSub, Array.replicate_succ, Array.replicate_zero, List.push_toArray, List.append_toArray, List.nil_append, List.cons_append]
 gi_wp2_with fail
 refine ⟨trivial, (callsIn_wide.2 (C1.out _ S0.out.bel)).mono ?_⟩
 rintro e w1 ⟨rfl, b1⟩
 have S1 := Lib.hid (S0.out.below b1)
 clear b1 S0 C1
 by_cases hd0 : d = 0
 ·subst hd0
  have HOK := Lib.hid HD.out.ok
  have x0 : (w1.alloc (.cells #[.slice none 0 0] 44)).cell? ⟨w.heap.size, 0, none⟩ = some (.slice A ws.length c) := BelS.c ((Below.refl _ _).alloc (Nat.le_refl _) _) S1.out.wk
  have HZ1 := Lib.hid S1.out.siz
  gi_wp2_with fail
  refine ⟨trivial, (callsIn_wide.2 (places_any A ws.length c _)).mono ?_⟩
  rintro e9 w9 ⟨rfl, rfl⟩
  obtain ⟨Wb, hWb⟩ : ∃ Wb, (w1.alloc (.cells #[.slice none 0 0] 44)).alloc (.cells #[.slice A ws.length c] 24) = Wb := ⟨_, rfl⟩
  have hzb : Wb.heap.size = w1.heap.size + 2 := by rw [← hWb]; simp
  have bwb : Below w1.heap.size w1 Wb := by rw [← hWb]; exact ((Below.refl _ _).alloc (Nat.le_refl _) _).alloc (by simp) _
  have HZB := Lib.hid hzb
  have J00 : Hid (CW w (.slice A ws.length c) (.slice A1 s.river.length c1) (.slice A2 s.boards.length c2) Wb ∧ Wb.cell? ⟨w1.heap.size, 0, none⟩ = some (.slice none 0 0) ∧ Wb.frozen? ⟨w1.heap.size, 0, none⟩ = false ∧ Wb.cell? ⟨w1.heap.size + 1, 0, none⟩ = some (.slice A ws.length c)) := Lib.hid ⟨S1.out.below bwb, by rw [← hWb]; simp [go_sem], by rw [← hWb]; simp [go_sem], by rw [← hWb]; simp [go_sem]⟩
  clear hzb bwb x0
  gi_wp2_with fail
  try rw [hWb]
  refine wpIn_rangeP (gf := 132) (lb := #[.pointer (some ⟨w1.heap.size + 1, 0, none⟩)]) rfl enters_places1
   (placesP_seq w Wb (w1.heap.size + 1) A ws.length c ws H.out (by have := HOK.out.1.tot; omega) (by have := HOK.out.1.len; omega)) (Below.refl _ _) (fun _ => rfl)
   (fun p W' => CW w (.slice A ws.length c) (.slice A1 s.river.length c1) (.slice A2 s.boards.length c2) W' ∧ (∃ u, W'.cell? ⟨w1.heap.size, 0, none⟩ = some u ∧ W'.frozen? ⟨w1.heap.size, 0, none⟩ = false ∧ OwnG enc2 2 40 (Wb.heap.size + 2) u (p.map (spF ws s)) W') ∧ W'.cell? ⟨w1.heap.size + 1, 0, none⟩ = some (.slice A ws.length c)) (fun _ _ _ => False) (fun _ _ h => ⟨h.1.bel, h.2.2⟩) ?h0b ?hIb (fun _ _ _ _ h _ => h) ?roundb ?doneb (fun _ _ _ _ h _ => h.elim)
  case h0b =>
   intro W' hb hsz
   obtain ⟨a1, a2, a3, a4⟩ := J00.out
   have hl := HZB.out
   exact ⟨a1.below hb, ⟨_, BelS.c hb a2, (hb.frozen (p := ⟨w1.heap.size, 0, none⟩) (by show w1.heap.size < _; omega)).trans a3, OwnG.nil _ _ _ _ _⟩, BelS.c hb a4⟩
  case hIb =>
   rintro p Wx Wy ⟨a1, ⟨u, a2, a3, a4⟩, a5⟩ hg
   have nb : ∀ k, k < Wb.heap.size → k ∉ [Wb.heap.size, Wb.heap.size + 1] := fun k hk hm => by simp at hm; omega
   have q1 := HZB.out
   have q2 := HZ1.out
   exact ⟨a1.grown hg (fun b hb => by simp at hb; omega), ⟨u, hg.cell a2 (nb _ (by show w1.heap.size < _; omega)), (World.frozen?_of_block (a := ⟨w1.heap.size, 0, none⟩) (hg.block _ (World.block_lt_of_cell? _ _ a2) (nb _ (by show w1.heap.size < _; omega)))).trans a3, a4.grown hg (fun b hb hm => by have := (a4.lt b hb).1; simp at hm; omega)⟩, hg.cell a5 (nb _ (by show w1.heap.size + 1 < _; omega))⟩
  case doneb =>
   rintro xs W hS ⟨a1, ⟨u, a2, a3, a4⟩, -⟩ hK
   obtain rfl : xs = allP ws := hS
   have G := Lib.hid a4
   have HB := Lib.hid a1.bel
   obtain ⟨Au, cu, rfl, -⟩ := a4.form
   obtain ⟨n, hn⟩ : ∃ n, ((allP ws).map (spF ws s)).length = n := ⟨_, rfl⟩
   rw [hn] at G a2
   clear a1 a3 a4 hn
   gi_wp2_with fail
   have gp : GrownL [Wb.heap.size] W (W.putObj Wb.heap.size (.deferred none)) := GrownL.putObj (bs := [Wb.heap.size]) W Wb.heap.size (.deferred none) (by simp)
   refine ⟨by simp, .inl ⟨_, _, rfl, run_takeDeferred hK, ?_⟩⟩
   have q1 := HZB.out
   have q2 := HZ1.out
   refine ⟨_, results_tmp2 rfl _ _ _, _, rfl, by rw [okS_zero]; exact (G.out.grown gp (fun b hb hm => by have := (G.out.lt b hb).1; simp at hm; omega)).low (by omega), HB.out.trans (gp.below (fun b hb => by simp at hb; omega) HB.out.size)⟩
  case roundb =>
   rintro pre x W' ⟨a1, ⟨u, a2, a3, a4⟩, a5⟩ hsz hsp
   obtain ⟨n, hxn, hpre, hnl, hnt⟩ := sp_next hsp
   obtain ⟨xa, xc, xn, x⟩ := x
   have hat : xa = n := (allP_inv hxn).1
   subst hat
   have hn60 : xa < 60 := by have := HOK.out.1.tot; omega
   have C4 := Lib.hid (C3.out HOK.out.1 HOK.out.2 xa _ hxn)
   have HT : Hid ((pre ++ [(⟨xa, xc, xn, x⟩ : Pl)]).map (spF ws s) = pre.map (spF ws s) ++ [(flE ws s x.id xa 1, flE ws s x.id xa (-1))]) := Lib.hid (by rw [List.map_append]; rfl)
   obtain ⟨Au, cu, rfl, -⟩ := a4.form
   obtain ⟨l, hl⟩ : ∃ l, pre.map (spF ws s) = l := ⟨_, rfl⟩
   have hll : l.length ≤ 1000 := by rw [← hl, List.length_map]; omega
   rw [hl] at a2 a4 HT
   obtain ⟨nu, hnu⟩ : ∃ nu, l.length = nu := ⟨_, rfl⟩
   rw [hnu] at a2 a4
   have HLL : Hid (l.length ≤ 1000) := Lib.hid hll
   have A1_ := Lib.hid a1
   have A2_ := Lib.hid a2
   have A3_ := Lib.hid a3
   have A4_ := Lib.hid a4
   have A5_ := Lib.hid a5
   have HSZ := Lib.hid hsz
   clear a1 a2 a3 a4 a5 hsp hpre hnl hnt hxn hl hnu hll C3
   dsimp only [encP]
   gi_wp2_with fail
   refine ⟨Keeps.of_below ((Below.refl _ _).alloc (Nat.le_refl _) _), fun W2 hg2 hl2 => ?_⟩
   obtain ⟨hO, hg, hz2⟩ := o_cells hg2 (by have := HZB.out; have := HSZ.out; omega)
   have nb : ∀ k, k < Wb.heap.size → k ∉ [Wb.heap.size + 1] := fun k hk hm => by simp at hm; omega
   have q1 := HZB.out
   have q2 := HZ1.out
   have D1 := Lib.hid (A1_.out.grown hg (fun b hb => by simp at hb; omega))
   have D2 := Lib.hid (hg.cell A2_.out (nb _ (by show w1.heap.size < _; omega)))
   have D3 : Hid (W2.frozen? ⟨w1.heap.size, 0, none⟩ = false) := Lib.hid ((World.frozen?_of_block (a := ⟨w1.heap.size, 0, none⟩) (hg.block _ (World.block_lt_of_cell? _ _ A2_.out) (nb _ (by show w1.heap.size < _; omega)))).trans A3_.out)
   have D4 := Lib.hid (A4_.out.grown hg (fun b hb hm => by have := (A4_.out.lt b hb).1; simp at hm; omega))
   have D5 := Lib.hid (hg.cell A5_.out (nb _ (by show w1.heap.size + 1 < _; omega)))
   have D6 : Hid (W2.cell? ⟨W'.heap.size, 0, none⟩ = some (.int .i64 x.id)) := Lib.hid hO.id
   have SZ2 : Hid (W'.heap.size ≤ W2.heap.size) := Lib.hid (by omega)
   have OW_ : Hid (∀ b ∈ (Value.slice Au nu cu).ownBlock.toList, Wb.heap.size + 2 ≤ b ∧ b < W'.heap.size) := Lib.hid (fun b hb => A4_.out.lt b (by simpa using hb))
   clear hO hg hz2 hg2 hl2 nb q1 q2 hsz A1_ A2_ A3_ A4_ A5_
   obtain ⟨Wd, hWd⟩ : ∃ Wd, World.drew W2 = Wd := ⟨_, rfl⟩
   have gWd : GrownL [] W2 Wd := by rw [← hWd]; exact (GrownL.refl _ _).drew
   have HWd := Lib.hid hWd
   have E1 := Lib.hid (D1.out.grown gWd (by simp))
   have E4 := Lib.hid (D4.out.grown gWd (by simp))
   have E6 := Lib.hid (gWd.cell D6.out (by simp))
   have KEEP : Hid (∀ W3, GrownL (Value.slice Au nu cu).ownBlock.toList Wd W3 → CW w (.slice A ws.length c) (.slice A1 s.river.length c1) (.slice A2 s.boards.length c2) W3 ∧ W3.cell? ⟨w1.heap.size, 0, none⟩ = some (.slice Au nu cu) ∧ W3.frozen? ⟨w1.heap.size, 0, none⟩ = false ∧ W3.cell? ⟨w1.heap.size + 1, 0, none⟩ = some (.slice A ws.length c) ∧ W3.cell? ⟨W'.heap.size, 0, none⟩ = some (.int .i64 x.id)) := Lib.hid (fun W3 hW => by
    have q1 := HZB.out
    have q2 := HZ1.out
    have n0 : ∀ k, k < Wb.heap.size + 2 ∨ W'.heap.size ≤ k → k ∉ (Value.slice Au nu cu).ownBlock.toList := fun k hk hm => by have := OW_.out k hm; omega
    exact ⟨E1.out.grown hW (fun b hb => by have := (OW_.out b hb).1; omega), hW.cell (gWd.cell D2.out (by simp)) (n0 _ (by show w1.heap.size < _ ∨ _; omega)), (World.frozen?_of_block (a := ⟨w1.heap.size, 0, none⟩) (hW.block _ (World.block_lt_of_cell? _ _ (gWd.cell D2.out (by simp))) (n0 _ (by show w1.heap.size < _ ∨ _; omega)))).trans ((World.frozen?_of_block (a := ⟨w1.heap.size, 0, none⟩) (gWd.block _ (World.block_lt_of_cell? _ _ D2.out) (by simp))).trans D3.out), hW.cell (gWd.cell D5.out (by simp)) (n0 _ (by show w1.heap.size + 1 < _ ∨ _; omega)), hW.cell E6.out (n0 _ (.inr (Nat.le_refl _)))⟩)
   clear hWd
   gi_wp2_with fail
   refine wpIn_region_T 9 (open_round _) (S := GrownL (Value.slice Au nu cu).ownBlock.toList (World.drew W2)) (by kernel_rfl) (by kernel_rfl) (GrownL.refl _ _) (fun J0 => ?_)
   rw [HWd.out] at J0 ⊢
   refine tt 0 20 J0 ?_ (hy := by intro w' hSw; obtain ⟨k1, k2, k3, k4, k5⟩ := KEEP.out w' hSw; have r0 := k1.wk; have r1 := k1.ca; have r2 := k1.cb; go_simp; try with_reducible rfl)
   try simp only [aS]
   refine tt 1 21 J0 ?_ (hy := by intro w' hSw; obtain ⟨k1, k2, k3, k4, k5⟩ := KEEP.out w' hSw; have r0 := k1.wk; have r1 := k1.ca; have r2 := k1.cb; go_simp; try with_reducible rfl)
   try simp only [aS]
   refine tt 2 22 J0 ?_ (hy := by intro w' hSw; obtain ⟨k1, k2, k3, k4, k5⟩ := KEEP.out w' hSw; have r0 := k1.wk; have r1 := k1.ca; have r2 := k1.cb; go_simp; try with_reducible rfl)
   try simp only [aS]
   refine tt 3 23 J0 ?_ (hy := by intro w' hSw; obtain ⟨k1, k2, k3, k4, k5⟩ := KEEP.out w' hSw; have r0 := k1.wk; have r1 := k1.ca; have r2 := k1.cb; go_simp; try with_reducible rfl)
   try simp only [aS]
   refine tt 4 24 J0 ?_ (hy := by intro w' hSw; obtain ⟨k1, k2, k3, k4, k5⟩ := KEEP.out w' hSw; have r0 := k1.wk; have r1 := k1.ca; have r2 := k1.cb; go_simp; try with_reducible rfl)
   try simp only [aS]
   refine oneT (i := 5) (by kernel_rfl) rfl (fun K hK => ?_)
   go_simp
   refine (C4.out _ (KEEP.out _ J0).1.bel).mono ?_
   rintro e wq ⟨g1, g2, g3, g4, d1, d2, d3, d4, rfl, -, -, bq⟩
   obtain ⟨f1, hf1⟩ : ∃ f, flE ws s x.id xa 1 = f := ⟨_, rfl⟩
   obtain ⟨f2, hf2⟩ : ∃ f, flE ws s x.id xa (-1) = f := ⟨_, rfl⟩
   rw [hf1, hf2] at HT
   try dsimp only
   rw [hf1, hf2]
   clear hf1 hf2
   have J1 := J0.trans (GrownL.of_below (bs := (Value.slice Au nu cu).ownBlock.toList) bq)
   refine hK.out _ _ J1 ?_
   clear hK K
   try simp only [aS]
   refine tt 6 26 J1 ?_ (hy := by intro w' hSw; have sf := sup_flow f1 f2 w' (a1 := g1) (a2 := g2) (a3 := g3) (a4 := g4) (d1 := d1) (d2 := d2) (d3 := d3) (d4 := d4); go_simp; try with_reducible rfl)
   try simp only [aS]
   refine oneT (i := 7) (by kernel_rfl) rfl (fun K hK => ?_)
   go_simp
   have J2 : GrownL (Value.slice Au nu cu).ownBlock.toList Wd (wq.alloc (.cells #[.int .i64 f1, .int .i64 f2] 40)) := J1.trans (GrownL.of_below ((Below.refl _ _).alloc (Nat.le_refl _) _))
   refine hK.out _ _ J2 ?_
   clear hK K
   try simp only [aS]
   refine oneT (i := 8) (by kernel_rfl) rfl (fun K hK => ?_)
   refine step_appS rfl _ _ rfl (Wb.heap.size + 2) (Value.slice Au nu cu) l rfl ((E4.out.below bq).below ((Below.refl _ _).alloc (Nat.le_refl _) _)) (by have := HLL.out; omega) wq.heap.size f1 f2 rfl (by simp [go_sem]) (by simp [go_sem]) (by have := J1.size; have := gWd.size; have := SZ2.out; have := HSZ.out; simp; omega) (fun v4 w4 ho4 g4_ ha4 => ?_)
   have J3 := J2.trans g4_
   obtain ⟨k1, k2, k3, k4, k5⟩ := KEEP.out _ J3
   obtain ⟨A4, c4, rfl, -⟩ := ho4.form
   obtain ⟨n4, hn4⟩ : ∃ n4, (l ++ [(f1, f2)]).length = n4 := ⟨_, rfl⟩
   have HO4 := Lib.hid ho4
   rw [hn4] at HO4 ⊢
   clear ho4 hn4
   try go_simp
   refine hK.out _ _ J3 ?_
   clear hK K
   try simp only [aS]
   refine lastT (by kernel_rfl) rfl (fun K hK => ?_)
   go_simp
   refine hK.out _ _ ?_
   clear hK K
   try simp only [aS]
   refine doneTN (by kernel_rfl) ?_ _
   obtain ⟨W9, hW9⟩ : ∃ W9, w4.setCell ⟨w1.heap.size, 0, none⟩ (.slice A4 n4 c4) = W9 := ⟨_, rfl⟩
   have g9 : GrownL [w1.heap.size] w4 W9 := by rw [← hW9]; exact GrownL.set _ _ _ (by simp)
   have q1 := HZB.out
   have q2 := HZ1.out
   have F1 := Lib.hid (k1.grown g9 (by simp; omega))
   have F2 : Hid (W9.cell? ⟨w1.heap.size, 0, none⟩ = some (.slice A4 n4 c4)) := Lib.hid (by rw [← hW9]; exact World.cell?_setCell_same' _ _ _ (by rw [k2]; rfl))
   have F3 : Hid (W9.frozen? ⟨w1.heap.size, 0, none⟩ = false) := Lib.hid (by rw [← hW9]; exact (World.frozen?_setCell _ _ _ _).trans k3)
   have F4 := Lib.hid (HO4.out.grown g9 (fun b hb hm => by have := (HO4.out.lt b hb).1; simp at hm; omega))
   have F5 := Lib.hid (g9.cell k4 (by simp))
   have GG : GrownL (w1.heap.size :: (Value.slice Au nu cu).ownBlock.toList) W2 W9 := ((gWd.mono (by simp)).trans (J3.mono (by simp +contextual))).trans (g9.mono (by simp))
   have KP : Hid (Keeps [Wb.heap.size, Wb.heap.size + 1] W2 W9) := Lib.hid (Keeps.of_grown GG (fun o ho hm => by
    rcases List.mem_cons.1 hm with e | hm
    ·simp at ho; omega
    ·have := (OW_.out o hm).1; simp at ho; omega))
   rw [hW9]
   clear J0 J1 J2 J3 k1 k2 k3 k4 k5 hW9 g9 GG gWd bq g4_ ha4 KEEP E1 E4 E6
   gi_wp2_with fail
   exact ⟨KP.out, F1.out, ⟨_, F2.out, F3.out, by rw [HT.out]; exact F4.out⟩, F5.out⟩
 ·have HD0 := Lib.hid hd0
  have hdb : (d != 0) = true := by rw [bne_iff_ne]; exact hd0
  gi_wp2_with fail
  exact ⟨_, results_tmp2 rfl _ _ _, _, rfl, by rw [okS_ne HD0.out]; exact OwnG.nil _ _ _ _ _, S1.out.bel⟩
end Go.Proofs.Ytkoacclbempmdaa

/- A carrier, an outlet, in memory; a number behind a list. -/
namespace Go.Proofs.Ytkoacclbempmdaa
open Go.RowKit
theorem rk_at {B n c k : Nat} {A : Option Addr} {ws : Wk} {os : List Ou} {w : World} (h : RK B (.slice A n c) ws w) (hos : ws[k]? = some os) : ∃ b o, A = some ⟨b, o, none⟩ ∧ b < B ∧ ∃ u, w.cell? ⟨b, o + k, none⟩ = some u ∧ ∃ A1 c1, u = .slice A1 os.length c1 ∧ RO B u os w := by
 obtain ⟨A0, c0, e0, -, hx⟩ := h
 have hk := (List.getElem?_eq_some_iff.1 hos).1
 simp only [Value.slice.injEq] at e0
 obtain ⟨rfl, -, -⟩ := e0
 obtain ⟨b, o, e1, e2, e3⟩ := hx (by omega)
 obtain ⟨u, hu, hr⟩ := e3 k os hos
 obtain ⟨a, cc, e⟩ := hr.slice
 exact ⟨b, o, e1, e2, u, hu, a, cc, e, hr⟩
theorem ro_at {B n c j : Nat} {A : Option Addr} {os : List Ou} {p : Ou} {w : World} (h : RO B (.slice A n c) os w) (hp : os[j]? = some p) : ∃ b o, A = some ⟨b, o, none⟩ ∧ b < B ∧ OuAt B b (o + j * 7) p w := by
 obtain ⟨A0, c0, e0, -, hx⟩ := h
 have hj := (List.getElem?_eq_some_iff.1 hp).1
 simp only [Value.slice.injEq] at e0
 obtain ⟨rfl, -, -⟩ := e0
 obtain ⟨b, o, e1, e2, e3⟩ := hx (by omega)
 exact ⟨b, o, e1, e2, e3 j p hp⟩
theorem own_snoc {W : World} {base n : Nat} {v : Value} {l : List Int} {y : Int} (h : W.ownsRow base 3 1 v (n + 1) (l.flatMap encI ++ [.int .i64 y])) (hn : l.length = n) : OwnG encI 1 3 base v (l ++ [y]) W := by
 unfold OwnG
 rw [List.flatMap_append, List.length_append, hn]
 exact h
theorem new_set (W : World) (a : Addr) (v x : Value) (t : TypeId) (i : Nat) (u : Value) (hi : [x][i]? = some u) : ((W.setCell a v).alloc (.cells #[x] t)).cell? ((⟨W.heap.size, 0, none⟩ : Addr).add i) = some u := by
 have := one_news (W.setCell a v) x t i u hi
 rwa [show (W.setCell a v).heap.size = W.heap.size by simp] at this

end Go.Proofs.Ytkoacclbempmdaa

/- Contract of the specification's water. -/
namespace Go.Proofs.Ytkoacclbempmdaa
open Go.RowKit

set_option maxHeartbeats 800000 in
theorem within_same (n lo hi : Int) (w : World) : Calls Try.prog 129 #[.int .i64 n, .int .i64 lo, .int .i64 hi] w fun e w' => e = .returned (.bool (inB lo hi n)) ∧ w = w' := by
 have HV : Hid (∀ x, x = (inB lo hi n) → Ending.returned (.bool x) = .returned (.bool (inB lo hi n))) := Lib.hid fun x h => by rw [h]
 have hc : (lo ≤ n) ∨ (n < lo) := by omega
 generalize hb : (inB lo hi n) = r at HV ⊢
 have HB := Lib.hid hb
 clear hb
 rcases hc with h0 | h0
 all_goals
  go_enter Try.func129, Try.ntmps129
  go_wp2_with fail
  go_ret
  refine ⟨HV.out _ ?_, ?_⟩
  ·rw [← HB.out, Bool.eq_iff_iff]
   simp [inB]
   try omega
  ·rfl
theorem rl_in {base : Nat} {v u : Value} {ws : Wk} {B : Nat} {w W : World} (h : OwnG encO 7 42 base v (outs ws) W) (hk : RK B u ws w) (hb : Below B w W) (hB : B ≤ W.heap.size) (ht : total ws ≤ 100000) : RO W.heap.size v (outs ws) W := by
 refine RO.of_rr (h.rr EO (by rw [outs_len]; show total ws ≤ 1000000000000000; omega)) (fun x hx => (outs_ps hk x hx).up hB hb)

set_option maxHeartbeats 16000000 in
set_option maxRecDepth 1000000 in
theorem rwater_any (A : Option Addr) (c : Nat) (wv : Value) (ws : Wk) (s : Wa) (d : Int) (w : World) (h : RK w.heap.size (.slice A ws.length c) ws w) (hs : RWa w.heap.size wv s w) (hw : WOk ws) (hd : (WaOk ws s ∧ d = 0) ∨ (¬ WaOk ws s ∧ d = 1)) :
  Calls Try.prog 119 #[.agg #[.slice A ws.length c], wv] w fun e w' => e = .returned (.int .i64 d) ∧ Below w.heap.size w w' := by
 obtain ⟨A1, c1, A2, c2, A3, c3, A4, c4, rfl⟩ := hs.form
 have H := Lib.hid h
 have HS := Lib.hid hs
 have HW := Lib.hid hw
 rw [waOk_iff] at hd
 have HBB := Lib.hid hd
 have ht : total ws ≤ 100000 := by have := hw.tot; omega
 have hln : ws.length ≤ 100000 := by have := hw.len; omega
 have C1 := Lib.hid fun W (hb : Below w.heap.size w W) => routlets_any A ws.length c ws W (h.up hb.size hb) ht
 have C2 := Lib.hid fun W (hb : Below w.heap.size w W) => rheads_any A ws.length c ws W (h.up hb.size hb) ht hln
 have S0 := Lib.hid (WW.new w (.slice A ws.length c) (.slice A1 s.river.length c1) (.slice A2 s.boards.length c2) (.slice A3 s.leaks.length c3) (.slice A4 s.losses.length c4))
 clear h hs hw hd
 go_enter Try.func119, Try.ntmps119
 go_wp2_with fail
 refine (C1.out _ S0.out.bel).mono ?_
 rintro e w2 ⟨lv, rfl, hlv, b1⟩
 have S2 := Lib.hid (S0.out.below b1)
 have RL := Lib.hid (rl_in hlv (H.out.up S0.out.bel.size S0.out.bel) b1 b1.size ht)
 obtain ⟨Al, cl, rfl, -⟩ := hlv.form
 have hol := outs_len ws
 rw [hol] at RL ⊢
 clear hlv b1 ht hln
 have x0 := S2.out.wk
 have x1 := S2.out.r
 have x2 := S2.out.b
 have x3 := S2.out.k
 have x4 := S2.out.l
 obtain ⟨nh, hnh⟩ : ∃ nh, (headsL ws).length = nh := ⟨_, rfl⟩
 obtain ⟨nt, hnt⟩ : ∃ nt, total ws = nt := ⟨_, rfl⟩
 have HNH := Lib.hid hnh
 have HNT := Lib.hid hnt
 have HCH : Hid (∀ W, BelS w2 W → Calls Try.prog 103 #[.agg #[.slice A ws.length c]] W fun e w' => ∃ A' c', e = .returned (.slice A' nh c') ∧ Below W.heap.size W w') := Lib.hid fun W hb => (C2.out W (S2.out.bel.trans (hb.b.mono S2.out.bel.size))).mono fun e w' ⟨v, he, ho, hb'⟩ => by
  obtain ⟨A', c', hv, -⟩ := ho.form
  exact ⟨A', c', by rw [he, hv, hnh], hb'⟩
 rw [hnt] at RL ⊢
 clear hnh hnt hol C1 C2
 go_upto_region 2 with fail
 refine wp_region_held_drew (S := BelS w2) (by kernel_rfl) (BelS.drew0 _) (fun J0 => ?_)
 have KK1 := Lib.hid fun (w_ : World) (hSw : BelS _ w_) => And.intro (hSw.c x1) (And.intro (hSw.c x2) (And.intro (hSw.c x3) (And.intro (hSw.c x4) (hSw.c x0))))
 refine tk KK1 0 14 J0 ?_
 try simp only [aS]
 refine tk KK1 1 15 J0 ?_
 try simp only [aS]
 refine tk KK1 2 16 J0 ?_
 try simp only [aS]
 refine tk KK1 3 17 J0 ?_
 try simp only [aS]
 refine wpAnyH_ready (rs := [4]) (by kernel_rfl) (by simp) ?_
 refine AllReadyH.cons rfl (fun K hK => ?_) AllReadyH.nil
 go_simp
 refine (HCH.out _ J0).mono ?_
 rintro e wq1 ⟨Ah, ch, rfl, hq1⟩
 have J1 := J0.below hq1
 clear hq1
 refine hK.out _ _ J1 (fun _ => ?_)
 clear hK K
 try simp only [aS]
 refine tk KK1 5 19 J1 ?_
 try simp only [aS]
 by_cases h0 : s.river.length = nh
 ·have h0b : ((s.river.length : Int) != (nh : Int)) = false := (neqB _ _).2.2 h0
  refine tk KK1 6 20 J1 ?_
  try simp only [aS]
  refine tk KK1 7 21 J1 ?_
  try simp only [aS]
  refine tk KK1 8 22 J1 ?_
  try simp only [aS]
  refine tk KK1 9 23 J1 ?_
  try simp only [aS]
  refine tk KK1 10 24 J1 ?_
  try simp only [aS]
  refine tk KK1 11 25 J1 ?_
  try simp only [aS]
  refine tk KK1 12 26 J1 ?_
  try simp only [aS]
  by_cases h1 : s.boards.length = nt
  ·have h1b : ((s.boards.length : Int) != (nt : Int)) = false := (neqB _ _).2.2 h1
   refine tk KK1 13 27 J1 ?_
   try simp only [aS]
   refine tk KK1 14 28 J1 ?_
   try simp only [aS]
   refine tk KK1 15 29 J1 ?_
   try simp only [aS]
   refine tk KK1 16 30 J1 ?_
   try simp only [aS]
   refine tk KK1 17 31 J1 ?_
   try simp only [aS]
   refine tk KK1 18 32 J1 ?_
   try simp only [aS]
   refine tk KK1 19 33 J1 ?_
   try simp only [aS]
   refine tk KK1 20 34 J1 ?_
   try simp only [aS]
   by_cases h2 : s.leaks.length = nt
   ·have h2b : ((s.leaks.length : Int) != (nt : Int)) = false := (neqB _ _).2.2 h2
    refine tk KK1 21 35 J1 ?_
    try simp only [aS]
    refine tk KK1 22 36 J1 ?_
    try simp only [aS]
    refine tk KK1 23 37 J1 ?_
    try simp only [aS]
    refine tk KK1 24 38 J1 ?_
    try simp only [aS]
    refine tk KK1 25 39 J1 ?_
    try simp only [aS]
    refine tk KK1 26 40 J1 ?_
    try simp only [aS]
    refine tk KK1 27 41 J1 ?_
    try simp only [aS]
    refine tk KK1 28 42 J1 ?_
    try simp only [aS]
    by_cases h3 : s.losses.length = nt
    ·have h3b : ((s.losses.length : Int) != (nt : Int)) = false := (neqB _ _).2.2 h3
     refine tk KK1 29 43 J1 ?_
     try simp only [aS]
     refine tk KK1 30 44 J1 ?_
     try simp only [aS]
     refine wpAnyH_done (by kernel_rfl) ?_ _
     have S3 := Lib.hid (S2.out.below (BelS.b J1))
     have RL := Lib.hid (RL.out.up (BelS.b J1).size (BelS.b J1))
     obtain ⟨w3, hw3⟩ : ∃ w3, wq1 = w3 := ⟨_, rfl⟩
     rw [hw3] at S3 RL ⊢
     clear hw3 x0 x1 x2 x3 x4 J0 J1
     have HBB2 : Hid ((((∀ x ∈ s.river, inB 0 1048576 x = true) ∧ ∀ p ∈ allP ws, okW s p = true) ∧ d = 0) ∨ (¬ ((∀ x ∈ s.river, inB 0 1048576 x = true) ∧ ∀ p ∈ allP ws, okW s p = true) ∧ d = 1)) := Lib.hid (by have := HBB.out; rw [HNH.out, HNT.out] at this; exact this.imp (fun h => ⟨⟨h.1.2.2.2.2.1, h.1.2.2.2.2.2⟩, h.2⟩) (fun h => ⟨fun hx => h.1 ⟨h0, h1, h2, h3, hx.1, hx.2⟩, h.2⟩))
     have HLN := Lib.hid (And.intro h1 (And.intro h2 h3))
     have hnr : (s.river.length : Int) ≤ 100000 := by have := HNH.out; have := headsL_len HW.out; omega
     have hntt : (nt : Int) ≤ 60 := by have := HNT.out; have := HW.out.tot; omega
     clear h0 h1 h2 h3 h0b h1b h2b h3b
     go_wp2_with fail
     go_loopw [6] (fun i wr => ∃ k : Nat, i = .int .i64 k ∧ k ≤ s.river.length ∧ (∀ j x, j < k → s.river[j]? = some x → inB 0 1048576 x = true) ∧ wr = w3) (fun i _ => s.river.length - (intOf i).toNat)
     case atStart => exact ⟨0, rfl, by omega, fun j x h => by omega, rfl⟩
     case round =>
      obtain ⟨k, rfl, hk, hok, rfl⟩ := hrel
      have HOK := Lib.hid hok
      have x1 := S3.out.r
      clear hok
      by_cases hkl : k < s.river.length
      ·have hk0 : (k : Int) < (s.river.length : Int) := by omega
       obtain ⟨x, hx⟩ : ∃ x, s.river[k]? = some x := ⟨_, List.getElem?_eq_getElem hkl⟩
       obtain ⟨b, o, rfl, hb, q0⟩ := (HS.out.parts.1.up S3.out.bel.size S3.out.bel).int hx
       have HX := Lib.hid hx
       clear hx
       go_wp2_with fail
       refine (within_same x 0 1048576 _).mono ?_
       rintro e w4 ⟨rfl, rfl⟩
       by_cases hin : inB 0 1048576 x = true
       ·rw [hin]
        have HIN := Lib.hid hin
        clear hin
        go_wp2_with fail
        go_roundw
        case rel => exact ⟨k + 1, by go_num, by omega, fun j y hj hy => by
         rcases Nat.lt_or_ge j k with h | h
         ·exact HOK.out j y h hy
         ·obtain rfl : j = k := by omega
          rw [HX.out] at hy
          cases hy
          exact HIN.out, trivial⟩
        case measure => show s.river.length - ((k : Int) + 1).toNat < s.river.length - (k : Int).toNat; omega
       ·rw [Bool.not_eq_true] at hin
        have HF : Hid (d = 1) := Lib.hid (HBB2.out.elim (fun hx => by have := hx.1.1 x (List.mem_of_getElem? HX.out); rw [hin] at this; cases this) (·.2))
        rw [hin]
        clear hin
        go_wp2_with fail
        go_ret
        exact ⟨by rw [HF.out]; try rfl, S3.out.bel⟩
      ·have hk0 : (s.river.length : Int) ≤ (k : Int) := by omega
       obtain rfl : k = s.river.length := by omega
       go_wp2_with fail
       go_loopw [8] (fun i wx => ∃ k : Nat, i = .int .i64 k ∧ k ≤ nt ∧ (∀ j p, j < k → (allP ws)[j]? = some p → okW s p = true) ∧ WW w (.slice A ws.length c) (.slice A1 s.river.length c1) (.slice A2 s.boards.length c2) (.slice A3 s.leaks.length c3) (.slice A4 s.losses.length c4) wx ∧ RO wx.heap.size (.slice Al nt cl) (outs ws) wx) (fun i _ => nt - (intOf i).toNat)
       case atStart => exact ⟨0, rfl, by omega, fun j x h => by omega, S3.out, RL.out⟩
       case round =>
        obtain ⟨k, rfl, hk', hok, hS4, hRL⟩ := hrel
        have HOK2 := Lib.hid hok
        have S4 := Lib.hid hS4
        have RL4 := Lib.hid hRL
        clear hok hS4 hRL
        have x1 := S4.out.r
        have x2 := S4.out.b
        have x3 := S4.out.k
        have x4 := S4.out.l
        by_cases hkl : k < nt
        ·have hk0 : (k : Int) < (nt : Int) := by omega
         obtain ⟨p, hp⟩ := at_total (ws := ws) (n := k) (by rw [HNT.out]; exact hkl)
         have hpo := (outs_get hp).1
         obtain ⟨b1, o1, hA1, hb1, hc1⟩ := ro_at RL4.out hpo
         subst hA1
         have p2 : wr.cell? ⟨b1, o1 + k * 7 + 2, none⟩ = some (.slice p.o.pa p.o.ps.length p.o.pc) := hc1.pv
         have p3 := hc1.k0
         have p4 : wr.cell? ⟨b1, o1 + k * 7 + 3 + 1, none⟩ = some (.int .i64 p.o.k1) := hc1.k1
         have p5 := hc1.s0
         have p6 : wr.cell? ⟨b1, o1 + k * 7 + 5 + 1, none⟩ = some (.int .i64 p.o.s1) := hc1.s1
         have hpl := hc1.ps.fits
         have hpl0 : (p.o.ps.length : Int) ≤ 1000000000000000 := by unfold Fits at hpl; omega
         have hat := (allP_inv hp).1
         obtain ⟨bd, hbd⟩ : ∃ x, s.boards[k]? = some x := ⟨_, List.getElem?_eq_getElem (by have := HLN.out.1; omega)⟩
         obtain ⟨lk, hlk⟩ : ∃ x, s.leaks[k]? = some x := ⟨_, List.getElem?_eq_getElem (by have := HLN.out.2.1; omega)⟩
         obtain ⟨ls, hls⟩ : ∃ x, s.losses[k]? = some x := ⟨_, List.getElem?_eq_getElem (by have := HLN.out.2.2; omega)⟩
         obtain ⟨br, or, rfl, hbr, y1⟩ := (HS.out.parts.2.1.up S4.out.bel.size S4.out.bel).int hbd
         obtain ⟨bk, ok, rfl, hbk, y2⟩ := (HS.out.parts.2.2.1.up S4.out.bel.size S4.out.bel).int hlk
         obtain ⟨bl, ol, rfl, hbll, y3⟩ := (HS.out.parts.2.2.2.up S4.out.bel.size S4.out.bel).int hls
         have hn1 : (k : Int) < (s.boards.length : Int) := by have := HLN.out.1; omega
         have hn2 : (k : Int) < (s.leaks.length : Int) := by have := HLN.out.2.1; omega
         have hn3 : (k : Int) < (s.losses.length : Int) := by have := HLN.out.2.2; omega
         have HOW : Hid (okW s p = (inB 0 ((p.o.ps.length : Int) - 1) bd && (inB p.o.k0 p.o.k1 lk && inB p.o.s0 p.o.s1 ls))) := Lib.hid (by unfold okW; rw [hat, getD_of hbd, getD_of hlk, getD_of hls])
         have HP := Lib.hid hp
         have hwr1 : IntKind.i64.wrap ((p.o.ps.length : Int) - 1) = (p.o.ps.length : Int) - 1 := IntWalk.i64_in _ (by omega)
         obtain ⟨n, hn⟩ : ∃ n, p.o.ps.length = n := ⟨_, rfl⟩
         rw [hn] at p2 hpl0 hwr1 HOW
         obtain ⟨i1, hi1⟩ : ∃ i, inB 0 ((n : Int) - 1) bd = i := ⟨_, rfl⟩
         obtain ⟨i2, hi2⟩ : ∃ i, inB p.o.k0 p.o.k1 lk = i := ⟨_, rfl⟩
         obtain ⟨i3, hi3⟩ : ∃ i, inB p.o.s0 p.o.s1 ls = i := ⟨_, rfl⟩
         have C1 := Lib.hid fun W => within_same bd 0 ((n : Int) - 1) W
         have C2 := Lib.hid fun W => within_same lk p.o.k0 p.o.k1 W
         have C3 := Lib.hid fun W => within_same ls p.o.s0 p.o.s1 W
         rw [hi1] at C1 HOW
         rw [hi2] at C2 HOW
         rw [hi3] at C3 HOW
         clear hp hpo hc1 hbd hlk hls hat hpl hbr hbk hbll hn hi1 hi2 hi3 hb1
         go_wp2_with fail
         go_quiet ((go_at_call 129; exact Calls.quiet_of_same (flip_same (C1.out _))))
         obtain ⟨Y1, hY1⟩ : ∃ Y, wr.drewN nq = Y := ⟨_, rfl⟩
         have bY1 : Below wr.heap.size wr Y1 := by rw [← hY1]; exact below_drewN (Below.refl _ _) _
         rw [hY1]
         clear hY1
         replace x3 := BelS.c bY1 x3
         replace x4 := BelS.c bY1 x4
         replace p3 := BelS.c bY1 p3
         replace p4 := BelS.c bY1 p4
         replace p5 := BelS.c bY1 p5
         replace p6 := BelS.c bY1 p6
         replace y2 := BelS.c bY1 y2
         replace y3 := BelS.c bY1 y3
         go_wp2_with fail
         go_quiet ((go_at_call 129; exact Calls.quiet_of_same (flip_same (C2.out _))))
         obtain ⟨Y2, hY2⟩ : ∃ Y, Y1.drewN nq = Y := ⟨_, rfl⟩
         have bY2 : Below Y1.heap.size Y1 Y2 := by rw [← hY2]; exact below_drewN (Below.refl _ _) _
         rw [hY2]
         clear hY2
         replace x4 := BelS.c bY2 x4
         replace p5 := BelS.c bY2 p5
         replace p6 := BelS.c bY2 p6
         replace y3 := BelS.c bY2 y3
         go_wp2_with fail
         go_quiet ((go_at_call 129; exact Calls.quiet_of_same (flip_same (C3.out _))))
         obtain ⟨Y3, hY3⟩ : ∃ Y, Y2.drewN nq = Y := ⟨_, rfl⟩
         have bY3 : Below Y2.heap.size Y2 Y3 := by rw [← hY3]; exact below_drewN (Below.refl _ _) _
         rw [hY3]
         clear hY3
         replace S4 := Lib.hid (((S4.out.below bY1).below bY2).below bY3)
         replace RL4 := Lib.hid (((RL4.out.up bY1.size bY1).up bY2.size bY2).up bY3.size bY3)
         clear C1 C2 C3 x1 x2 x3 x4 p2 p3 p4 p5 p6 y1 y2 y3 bY1 bY2 bY3
         have hx : (i1 = true ∧ i2 = true ∧ i3 = true) ∨ (i1 && (i2 && i3)) = false := by cases i1 <;> cases i2 <;> cases i3 <;> simp
         rcases hx with ⟨rfl, rfl, rfl⟩ | hx
         ·have HOK3 : Hid (okW s p = true) := Lib.hid HOW.out
          go_wp2_with fail
          go_roundw
          case rel => exact ⟨k + 1, by go_num, by omega, fun j q hj hq => by
           rcases Nat.lt_or_ge j k with h | h
           ·exact HOK2.out j q h hq
           ·obtain rfl : j = k := by omega
            rw [HP.out] at hq
            cases hq
            exact HOK3.out, S4.out, RL4.out⟩
          case measure => show nt - ((k : Int) + 1).toNat < nt - (k : Int).toNat; omega
         ·have HF : Hid (d = 1) := Lib.hid (HBB2.out.elim (fun hy => by have := hy.1.2 p (List.mem_of_getElem? HP.out); rw [HOW.out, hx] at this; cases this) (·.2))
          clear HOW
          cases i1 <;> cases i2 <;> cases i3 <;> simp only [Bool.and_self, Bool.and_true, Bool.and_false, Bool.false_and, Bool.true_and, Bool.true_eq_false, reduceCtorEq] at hx
          all_goals go_wp2_with fail
          all_goals go_ret
          all_goals exact ⟨by rw [HF.out]; try rfl, S4.out.bel⟩
        ·have hk0 : (nt : Int) ≤ (k : Int) := by omega
         obtain rfl : k = nt := by omega
         have HF : Hid (d = 0) := Lib.hid (HBB2.out.elim (·.2) (fun hx => absurd ⟨fun x hx => by
          obtain ⟨i, hi⟩ := List.mem_iff_getElem?.1 hx
          exact HOK.out i x (List.getElem?_eq_some_iff.1 hi).1 hi, fun p hp => by
          obtain ⟨i, hi⟩ := List.mem_iff_getElem?.1 hp
          exact HOK2.out i p (by have := lt_total hi; rw [HNT.out] at this; exact this) hi⟩ hx.1))
         go_wp2_with fail
         go_ret
         exact ⟨by rw [HF.out]; try rfl, S4.out.bel⟩
    ·have h3b : ((s.losses.length : Int) != (nt : Int)) = true := (neqB _ _).1.2 h3
     have HF : Hid (d = 1) := Lib.hid (HBB.out.elim (fun hx => by rw [HNH.out, HNT.out] at hx; exact absurd hx.1.2.2.2.1 h3) (·.2))
     refine tk KK1 29 43 J1 ?_
     try simp only [aS]
     refine tk KK1 30 44 J1 ?_
     try simp only [aS]
     refine wpAnyH_done (by kernel_rfl) ?_ _
     have BE := Lib.hid (S2.out.bel.trans ((BelS.b J1).mono S2.out.bel.size))
     clear x0 x1 x2 x3 x4
     go_wp2_with fail
     go_ret
     exact ⟨by rw [HF.out]; try rfl, BE.out⟩
   ·have h2b : ((s.leaks.length : Int) != (nt : Int)) = true := (neqB _ _).1.2 h2
    have HF : Hid (d = 1) := Lib.hid (HBB.out.elim (fun hx => by rw [HNH.out, HNT.out] at hx; exact absurd hx.1.2.2.1 h2) (·.2))
    refine tk KK1 21 35 J1 ?_
    try simp only [aS]
    refine tk KK1 22 36 J1 ?_
    try simp only [aS]
    refine tk KK1 23 37 J1 ?_
    try simp only [aS]
    refine sw 24 38 J1 ?_
    try simp only [aS]
    refine sw 25 39 J1 ?_
    try simp only [aS]
    refine sw 26 40 J1 ?_
    try simp only [aS]
    refine sw 27 41 J1 ?_
    try simp only [aS]
    refine sw 28 42 J1 ?_
    try simp only [aS]
    refine sw 29 43 J1 ?_
    try simp only [aS]
    refine tk KK1 30 44 J1 ?_
    try simp only [aS]
    refine wpAnyH_done (by kernel_rfl) ?_ _
    have BE := Lib.hid (S2.out.bel.trans ((BelS.b J1).mono S2.out.bel.size))
    clear x0 x1 x2 x3 x4
    go_wp2_with fail
    go_ret
    exact ⟨by rw [HF.out]; try rfl, BE.out⟩
  ·have h1b : ((s.boards.length : Int) != (nt : Int)) = true := (neqB _ _).1.2 h1
   have HF : Hid (d = 1) := Lib.hid (HBB.out.elim (fun hx => by rw [HNH.out, HNT.out] at hx; exact absurd hx.1.2.1 h1) (·.2))
   refine tk KK1 13 27 J1 ?_
   try simp only [aS]
   refine tk KK1 14 28 J1 ?_
   try simp only [aS]
   refine tk KK1 15 29 J1 ?_
   try simp only [aS]
   refine sw 16 30 J1 ?_
   try simp only [aS]
   refine sw 17 31 J1 ?_
   try simp only [aS]
   refine sw 18 32 J1 ?_
   try simp only [aS]
   refine sw 19 33 J1 ?_
   try simp only [aS]
   refine sw 20 34 J1 ?_
   try simp only [aS]
   refine sw 21 35 J1 ?_
   try simp only [aS]
   refine tk KK1 22 36 J1 ?_
   try simp only [aS]
   refine tk KK1 23 37 J1 ?_
   try simp only [aS]
   refine sw 24 38 J1 ?_
   try simp only [aS]
   refine sw 25 39 J1 ?_
   try simp only [aS]
   refine sw 26 40 J1 ?_
   try simp only [aS]
   refine sw 27 41 J1 ?_
   try simp only [aS]
   refine sw 28 42 J1 ?_
   try simp only [aS]
   refine sw 29 43 J1 ?_
   try simp only [aS]
   refine tk KK1 30 44 J1 ?_
   try simp only [aS]
   refine wpAnyH_done (by kernel_rfl) ?_ _
   have BE := Lib.hid (S2.out.bel.trans ((BelS.b J1).mono S2.out.bel.size))
   clear x0 x1 x2 x3 x4
   go_wp2_with fail
   go_ret
   exact ⟨by rw [HF.out]; try rfl, BE.out⟩
 ·have h0b : ((s.river.length : Int) != (nh : Int)) = true := (neqB _ _).1.2 h0
  have HF : Hid (d = 1) := Lib.hid (HBB.out.elim (fun hx => by rw [HNH.out, HNT.out] at hx; exact absurd hx.1.1 h0) (·.2))
  refine tk KK1 6 20 J1 ?_
  try simp only [aS]
  refine tk KK1 7 21 J1 ?_
  try simp only [aS]
  refine sw 8 22 J1 ?_
  try simp only [aS]
  refine sw 9 23 J1 ?_
  try simp only [aS]
  refine sw 10 24 J1 ?_
  try simp only [aS]
  refine sw 11 25 J1 ?_
  try simp only [aS]
  refine sw 12 26 J1 ?_
  try simp only [aS]
  refine sw 13 27 J1 ?_
  try simp only [aS]
  refine tk KK1 14 28 J1 ?_
  try simp only [aS]
  refine tk KK1 15 29 J1 ?_
  try simp only [aS]
  refine sw 16 30 J1 ?_
  try simp only [aS]
  refine sw 17 31 J1 ?_
  try simp only [aS]
  refine sw 18 32 J1 ?_
  try simp only [aS]
  refine sw 19 33 J1 ?_
  try simp only [aS]
  refine sw 20 34 J1 ?_
  try simp only [aS]
  refine sw 21 35 J1 ?_
  try simp only [aS]
  refine tk KK1 22 36 J1 ?_
  try simp only [aS]
  refine tk KK1 23 37 J1 ?_
  try simp only [aS]
  refine sw 24 38 J1 ?_
  try simp only [aS]
  refine sw 25 39 J1 ?_
  try simp only [aS]
  refine sw 26 40 J1 ?_
  try simp only [aS]
  refine sw 27 41 J1 ?_
  try simp only [aS]
  refine sw 28 42 J1 ?_
  try simp only [aS]
  refine sw 29 43 J1 ?_
  try simp only [aS]
  refine tk KK1 30 44 J1 ?_
  try simp only [aS]
  refine wpAnyH_done (by kernel_rfl) ?_ _
  have BE := Lib.hid (S2.out.bel.trans ((BelS.b J1).mono S2.out.bel.size))
  clear x0 x1 x2 x3 x4
  go_wp2_with fail
  go_ret
  exact ⟨by rw [HF.out]; try rfl, BE.out⟩
end Go.Proofs.Ytkoacclbempmdaa

/- Contracts of the specification's cased and CheckCase. -/
namespace Go.Proofs.Ytkoacclbempmdaa
open Go.RowKit

set_option maxHeartbeats 16000000 in
set_option maxRecDepth 1000000 in
theorem rcased_any (A : Option Addr) (c : Nat) (cv : Value) (ws : Wk) (s : Ca) (d : Int) (w : World) (h : RK w.heap.size (.slice A ws.length c) ws w) (hs : RCa w.heap.size cv s w) (hw : WOk ws) (hd : (CaOk ws s ∧ d = 0) ∨ (¬ CaOk ws s ∧ d = 1)) :
  Calls Try.prog 123 #[.agg #[.slice A ws.length c], cv] w fun e w' => e = .returned (.int .i64 d) ∧ Below w.heap.size w w' := by
 obtain ⟨A1, c1, A2, c2, rfl⟩ := hs.form
 have H := Lib.hid h
 have HS := Lib.hid hs
 have HW := Lib.hid hw
 have HBB := Lib.hid hd
 have ht : total ws ≤ 100000 := by have := hw.tot; omega
 have hln : ws.length ≤ 100000 := by have := hw.len; omega
 have C1 := Lib.hid fun W (hb : Below w.heap.size w W) => routlets_any A ws.length c ws W (h.up hb.size hb) ht
 have C2 := Lib.hid fun W (hb : Below w.heap.size w W) => rheads_any A ws.length c ws W (h.up hb.size hb) ht hln
 have S0 := Lib.hid (CW.new w (.slice A ws.length c) (.slice A1 s.river.length c1) (.slice A2 s.boards.length c2))
 clear h hs hw hd
 go_enter Try.func123, Try.ntmps123
 go_wp2_with fail
 refine (C1.out _ S0.out.bel).mono ?_
 rintro e w2 ⟨lv, rfl, hlv, b1⟩
 have S2 := Lib.hid (S0.out.below b1)
 have RL := Lib.hid (rl_in hlv (H.out.up S0.out.bel.size S0.out.bel) b1 b1.size ht)
 obtain ⟨Al, cl, rfl, -⟩ := hlv.form
 have hol := outs_len ws
 rw [hol] at RL ⊢
 clear hlv b1 ht hln
 have x0 := S2.out.wk
 have x1 := S2.out.ca
 have x2 := S2.out.cb
 obtain ⟨nh, hnh⟩ : ∃ nh, (headsL ws).length = nh := ⟨_, rfl⟩
 obtain ⟨nt, hnt⟩ : ∃ nt, total ws = nt := ⟨_, rfl⟩
 have HNH := Lib.hid hnh
 have HNT := Lib.hid hnt
 have HCH : Hid (∀ W, BelS w2 W → Calls Try.prog 103 #[.agg #[.slice A ws.length c]] W fun e w' => ∃ A' c', e = .returned (.slice A' nh c') ∧ Below W.heap.size W w') := Lib.hid fun W hb => (C2.out W (S2.out.bel.trans (hb.b.mono S2.out.bel.size))).mono fun e w' ⟨v, he, ho, hb'⟩ => by
  obtain ⟨A', c', hv, -⟩ := ho.form
  exact ⟨A', c', by rw [he, hv, hnh], hb'⟩
 rw [hnt] at RL ⊢
 clear hnh hnt hol C1 C2
 go_upto_region 2 with fail
 refine wp_region_held_drew (S := BelS w2) (by kernel_rfl) (BelS.drew0 _) (fun J0 => ?_)
 have KK1 := Lib.hid fun (w_ : World) (hSw : BelS _ w_) => And.intro (hSw.c x0) (And.intro (hSw.c x1) (hSw.c x2))
 refine tk KK1 0 12 J0 ?_
 try simp only [aS]
 refine tk KK1 1 13 J0 ?_
 try simp only [aS]
 refine tk KK1 2 14 J0 ?_
 try simp only [aS]
 refine tk KK1 3 15 J0 ?_
 try simp only [aS]
 refine wpAnyH_ready (rs := [4]) (by kernel_rfl) (by simp) ?_
 refine AllReadyH.cons rfl (fun K hK => ?_) AllReadyH.nil
 go_simp
 refine (HCH.out _ J0).mono ?_
 rintro e wq1 ⟨Ah, ch, rfl, hq1⟩
 have J1 := J0.below hq1
 clear hq1
 refine hK.out _ _ J1 (fun _ => ?_)
 clear hK K
 try simp only [aS]
 refine tk KK1 5 17 J1 ?_
 try simp only [aS]
 by_cases h0 : s.river.length = nh
 ·have h0b : ((s.river.length : Int) != (nh : Int)) = false := (neqB _ _).2.2 h0
  refine tk KK1 6 18 J1 ?_
  try simp only [aS]
  refine tk KK1 7 19 J1 ?_
  try simp only [aS]
  refine tk KK1 8 20 J1 ?_
  try simp only [aS]
  refine tk KK1 9 21 J1 ?_
  try simp only [aS]
  refine tk KK1 10 22 J1 ?_
  try simp only [aS]
  refine tk KK1 11 23 J1 ?_
  try simp only [aS]
  refine tk KK1 12 24 J1 ?_
  try simp only [aS]
  by_cases h1 : s.boards.length = nt
  ·have h1b : ((s.boards.length : Int) != (nt : Int)) = false := (neqB _ _).2.2 h1
   refine tk KK1 13 25 J1 ?_
   try simp only [aS]
   refine tk KK1 14 26 J1 ?_
   try simp only [aS]
   refine wpAnyH_done (by kernel_rfl) ?_ _
   have S3 := Lib.hid (S2.out.below (BelS.b J1))
   have RL := Lib.hid (RL.out.up (BelS.b J1).size (BelS.b J1))
   obtain ⟨w3, hw3⟩ : ∃ w3, wq1 = w3 := ⟨_, rfl⟩
   rw [hw3] at S3 RL ⊢
   clear hw3 x0 x1 x2 J0 J1
   have HBB2 : Hid ((CaOk ws s ∧ d = 0) ∨ (¬ CaOk ws s ∧ d = 1)) := HBB
   have HLN := Lib.hid (And.intro h0 h1)
   have hnr : (s.river.length : Int) ≤ 100000 := by have := HNH.out; have := headsL_len HW.out; omega
   have hntt : (nt : Int) ≤ 60 := by have := HNT.out; have := HW.out.tot; omega
   clear h0 h1 h0b h1b
   go_wp2_with fail
   go_loopw [6] (fun i wr => ∃ k : Nat, i = .int .i64 k ∧ k ≤ s.river.length ∧ (∀ j x, j < k → s.river[j]? = some x → spB 0 1048576 x.1 x.2 = true) ∧ CW w (.slice A ws.length c) (.slice A1 s.river.length c1) (.slice A2 s.boards.length c2) wr ∧ RO wr.heap.size (.slice Al nt cl) (outs ws) wr) (fun i _ => s.river.length - (intOf i).toNat)
   case atStart => exact ⟨0, rfl, by omega, fun j x h => by omega, S3.out, RL.out⟩
   case round =>
    obtain ⟨k, rfl, hk, hok, hS3, hRL⟩ := hrel
    have HOK := Lib.hid hok
    replace S3 := Lib.hid hS3
    replace RL := Lib.hid hRL
    have x1 := S3.out.ca
    clear hok hS3 hRL
    by_cases hkl : k < s.river.length
    ·have hk0 : (k : Int) < (s.river.length : Int) := by omega
     obtain ⟨x, hx⟩ : ∃ x, s.river[k]? = some x := ⟨_, List.getElem?_eq_getElem hkl⟩
     obtain ⟨b, o, rfl, hb, q0, q1⟩ := (HS.out.parts.1.up S3.out.bel.size S3.out.bel).span hx
     have HX := Lib.hid hx
     obtain ⟨lo, hi⟩ := x
     clear hx
     go_wp2_with fail
     refine (rflows_any lo hi _).mono ?_
     rintro e w4 ⟨rfl, b4⟩
     replace S3 := Lib.hid (S3.out.below b4)
     replace RL := Lib.hid (RL.out.up b4.size b4)
     clear b4 q0 q1 x1
     by_cases hin : spB 0 1048576 lo hi = true
     ·rw [hin]
      have HIN := Lib.hid hin
      clear hin
      go_wp2_with fail
      go_roundw
      case rel => exact ⟨k + 1, by go_num, by omega, fun j y hj hy => by
       rcases Nat.lt_or_ge j k with h | h
       ·exact HOK.out j y h hy
       ·obtain rfl : j = k := by omega
        rw [HX.out] at hy
        cases hy
        exact HIN.out, S3.out, RL.out⟩
      case measure => show s.river.length - ((k : Int) + 1).toNat < s.river.length - (k : Int).toNat; omega
     ·rw [Bool.not_eq_true] at hin
      have HF : Hid (d = 1) := Lib.hid (HBB2.out.elim (fun hx => by have := hx.1.rr _ (List.mem_of_getElem? HX.out); simp only at this; rw [hin] at this; cases this) (·.2))
      rw [hin]
      clear hin
      go_wp2_with fail
      go_ret
      exact ⟨by rw [HF.out]; try rfl, S3.out.bel⟩
    ·have hk0 : (s.river.length : Int) ≤ (k : Int) := by omega
     obtain rfl : k = s.river.length := by omega
     go_wp2_with fail
     go_loopw [8] (fun i wx => ∃ k : Nat, i = .int .i64 k ∧ k ≤ nt ∧ (∀ j p x, j < k → (allP ws)[j]? = some p → s.boards[j]? = some x → spB 0 ((p.o.ps.length : Int) - 1) x.1 x.2 = true) ∧ CW w (.slice A ws.length c) (.slice A1 s.river.length c1) (.slice A2 s.boards.length c2) wx ∧ RO wx.heap.size (.slice Al nt cl) (outs ws) wx) (fun i _ => nt - (intOf i).toNat)
     case atStart => exact ⟨0, rfl, by omega, fun j x y h => by omega, S3.out, RL.out⟩
     case round =>
      obtain ⟨k, rfl, hk', hok, hS4, hRL⟩ := hrel
      have HOK2 := Lib.hid hok
      have S4 := Lib.hid hS4
      have RL4 := Lib.hid hRL
      clear hok hS4 hRL
      have x2 := S4.out.cb
      by_cases hkl : k < nt
      ·have hk0 : (k : Int) < (nt : Int) := by omega
       obtain ⟨p, hp⟩ := at_total (ws := ws) (n := k) (by rw [HNT.out]; exact hkl)
       obtain ⟨x, hx⟩ : ∃ x, s.boards[k]? = some x := ⟨_, List.getElem?_eq_getElem (by have := HLN.out.2; omega)⟩
       obtain ⟨b, o, rfl, hb, q0, q1⟩ := (HS.out.parts.2.up S4.out.bel.size S4.out.bel).span hx
       have hn1 : (k : Int) < (s.boards.length : Int) := by have := HLN.out.2; omega
       have HX := Lib.hid hx
       have HP := Lib.hid hp
       obtain ⟨lo, hi⟩ := x
       clear hx
       go_upto_region 14 with fail
       obtain ⟨WA, hWA⟩ : ∃ W, wr.alloc (.cells #[.int .i64 lo, .int .i64 hi] 40) = W := ⟨_, rfl⟩
       have bA : Below wr.heap.size wr WA := by rw [← hWA]; exact (Below.refl _ _).alloc (Nat.le_refl _) _
       have a0 : WA.cell? ⟨wr.heap.size, 0, none⟩ = some (.int .i64 lo) := by rw [← hWA]; simp [go_sem]
       have a1 : WA.cell? ⟨wr.heap.size, 1, none⟩ = some (.int .i64 hi) := by rw [← hWA]; simp [go_sem]
       rw [hWA]
       replace S4 := Lib.hid (S4.out.below bA)
       replace RL4 := Lib.hid (RL4.out.up bA.size bA)
       clear bA hWA q0 q1 x2
       have hpo := (outs_get hp).1
       obtain ⟨b1, o1, hA1, hb1, hc1⟩ := ro_at RL4.out hpo
       subst hA1
       have p2 : WA.cell? ⟨b1, o1 + k * 7 + 2, none⟩ = some (.slice p.o.pa p.o.ps.length p.o.pc) := hc1.pv
       obtain ⟨n, hn⟩ : ∃ n, p.o.ps.length = n := ⟨_, rfl⟩
       rw [hn] at p2
       have HN := Lib.hid hn
       clear hp hpo hc1 hn hb1
       rcases (by omega : (¬ lo < 0 ∧ ¬ hi < lo ∧ ¬ (n : Int) ≤ hi) ∨ lo < 0 ∨ (¬ lo < 0 ∧ hi < lo) ∨ (¬ lo < 0 ∧ ¬ hi < lo ∧ (n : Int) ≤ hi)) with ⟨g0, g1, g2⟩ | g0 | ⟨g0, g1⟩ | ⟨g0, g1, g2⟩
       ·go_quiet (fail)
        go_wp2_with fail
        go_roundw
        case rel => exact ⟨k + 1, by go_num, by omega, fun j q x hj hq hx => by
         rcases Nat.lt_or_ge j k with h | h
         ·exact HOK2.out j q x h hq hx
         ·obtain rfl : j = k := by omega
          rw [HP.out] at hq
          rw [HX.out] at hx
          cases hq
          cases hx
          rw [HN.out, spB_iff]
          simp only
          omega, S4.out.below (below_drewN (Below.refl _ _) _), RL4.out.up (by simp) (below_drewN (Below.refl _ _) _)⟩
        case measure => show nt - ((k : Int) + 1).toNat < nt - (k : Int).toNat; omega
       all_goals
        have HF : Hid (d = 1) := Lib.hid (HBB2.out.elim (fun hx => by have := hx.1.ob k p _ HP.out HX.out; rw [HN.out, spB_iff] at this; simp only at this; omega) (·.2))
        go_quiet (fail)
        go_wp2_with fail
        go_ret
        exact ⟨by rw [HF.out]; try rfl, below_drewN S4.out.bel _⟩
      ·have hk0 : (nt : Int) ≤ (k : Int) := by omega
       obtain rfl : k = nt := by omega
       have HF : Hid (d = 0) := Lib.hid (HBB2.out.elim (·.2) (fun hx => absurd ⟨by rw [HNH.out]; exact HLN.out.1, by rw [HNT.out]; exact HLN.out.2, fun x hx => by
        obtain ⟨i, hi⟩ := List.mem_iff_getElem?.1 hx
        exact HOK.out i x (List.getElem?_eq_some_iff.1 hi).1 hi, fun i p x hi hx => HOK2.out i p x (by have := lt_total hi; rw [HNT.out] at this; exact this) hi hx⟩ hx.1))
       go_wp2_with fail
       go_ret
       exact ⟨by rw [HF.out]; try rfl, S4.out.bel⟩
  ·have h1b : ((s.boards.length : Int) != (nt : Int)) = true := (neqB _ _).1.2 h1
   have HF : Hid (d = 1) := Lib.hid (HBB.out.elim (fun hx => absurd (by have := hx.1.b; have := HNH.out; have := HNT.out; omega) h1) (·.2))
   refine tk KK1 13 25 J1 ?_
   try simp only [aS]
   refine tk KK1 14 26 J1 ?_
   try simp only [aS]
   refine wpAnyH_done (by kernel_rfl) ?_ _
   have BE := Lib.hid (S2.out.bel.trans ((BelS.b J1).mono S2.out.bel.size))
   clear x0 x1 x2
   go_wp2_with fail
   go_ret
   exact ⟨by rw [HF.out]; try rfl, BE.out⟩
 ·have h0b : ((s.river.length : Int) != (nh : Int)) = true := (neqB _ _).1.2 h0
  have HF : Hid (d = 1) := Lib.hid (HBB.out.elim (fun hx => absurd (by have := hx.1.r; have := HNH.out; have := HNT.out; omega) h0) (·.2))
  refine tk KK1 6 18 J1 ?_
  try simp only [aS]
  refine tk KK1 7 19 J1 ?_
  try simp only [aS]
  refine sw 8 20 J1 ?_
  try simp only [aS]
  refine sw 9 21 J1 ?_
  try simp only [aS]
  refine sw 10 22 J1 ?_
  try simp only [aS]
  refine sw 11 23 J1 ?_
  try simp only [aS]
  refine sw 12 24 J1 ?_
  try simp only [aS]
  refine sw 13 25 J1 ?_
  try simp only [aS]
  refine tk KK1 14 26 J1 ?_
  try simp only [aS]
  refine wpAnyH_done (by kernel_rfl) ?_ _
  have BE := Lib.hid (S2.out.bel.trans ((BelS.b J1).mono S2.out.bel.size))
  clear x0 x1 x2
  go_wp2_with fail
  go_ret
  exact ⟨by rw [HF.out]; try rfl, BE.out⟩

set_option maxHeartbeats 8000000 in
set_option maxRecDepth 1000000 in
theorem rCheckCase_any (v cv : Value) (ws : Wk) (s : Ca) (d : Int) (w : World) (h : RK w.heap.size v ws w) (ht : total ws ≤ 100000) (hs : RCa w.heap.size cv s w) (hd : CasIs ws s d) :
  Calls Try.prog 63 #[.agg #[v], cv] w fun e w' => e = .returned (.int .i64 d) ∧ Below w.heap.size w w' := by
 obtain ⟨A, c, rfl, -⟩ := (show ∃ A c, v = .slice A ws.length c ∧ True by obtain ⟨A, c, e, _⟩ := h; exact ⟨A, c, e, trivial⟩)
 obtain ⟨A1, c1, A2, c2, rfl⟩ := hs.form
 have C1 := Lib.hid fun (d : Int) (hc : CheckIs ws d) W (hb : Below w.heap.size w W) => rcheck_any A ws.length c ws d W (h.up hb.size hb) ht hc
 have C2 := Lib.hid fun (hw : WOk ws) (hd : (CaOk ws s ∧ d = 0) ∨ (¬ CaOk ws s ∧ d = 1)) W (hb : Below w.heap.size w W) => rcased_any A c _ ws s d W (h.up hb.size hb) (hs.up hb.size hb) hw hd
 have S0 := Lib.hid (CW.new w (.slice A ws.length c) (.slice A1 s.river.length c1) (.slice A2 s.boards.length c2))
 clear h hs
 have hx : (CheckIs ws d ∧ d ≠ 0) ∨ (CheckIs ws 0 ∧ ((CaOk ws s ∧ d = 0) ∨ (¬ CaOk ws s ∧ d = 1))) := by
  rcases hd with h | ⟨a, b, e⟩ | ⟨a, b, e⟩
  ·exact .inl h
  ·exact .inr ⟨a, .inr ⟨b, e⟩⟩
  ·exact .inr ⟨a, .inl ⟨b, e⟩⟩
 rcases hx with ⟨hc, hd⟩ | ⟨hc, hd⟩
 ·have HC := Lib.hid hc
  have hdb : (d != 0) = true := by rw [bne_iff_ne]; exact hd
  clear hc
  go_enter Try.func63, Try.ntmps63
  go_wp2_with fail
  refine (C1.out d HC.out _ S0.out.bel).mono ?_
  rintro e w1 ⟨rfl, b1⟩
  have S1 := Lib.hid (S0.out.below b1)
  clear b1
  go_wp2_with fail
  go_ret
  exact ⟨rfl, S1.out.bel⟩
 ·have HC := Lib.hid hc
  have HD := Lib.hid hd
  clear hc hd
  go_enter Try.func63, Try.ntmps63
  go_wp2_with fail
  refine (C1.out 0 HC.out _ S0.out.bel).mono ?_
  rintro e w1 ⟨rfl, b1⟩
  have S1 := Lib.hid (S0.out.below b1)
  clear b1
  have x0 := S1.out.wk
  have x1 := S1.out.ca
  have x2 := S1.out.cb
  go_wp2_with fail
  refine (C2.out HC.out.ok HD.out _ S1.out.bel).mono ?_
  rintro e w2 ⟨rfl, b1⟩
  have S2 := Lib.hid (S1.out.below b1)
  clear b1
  go_wp2_with fail
  go_ret
  exact ⟨rfl, S2.out.bel⟩
end Go.Proofs.Ytkoacclbempmdaa

/- Contracts of Fits, and of the specification's Fits. -/
namespace Go.Proofs.Ytkoacclbempmdaa
open Go.RowKit

/-- What the law holds in its first blocks. -/
structure WCA (w : World) (vv0 va0 va1 vb0 vb1 vb2 vb3 : Value) (W : World) : Prop where
 v0 : W.cell? ⟨w.heap.size, 0, none⟩ = some vv0
 a0 : W.cell? ⟨w.heap.size + 1, 0, none⟩ = some va0
 a1 : W.cell? ⟨w.heap.size + 1, 1, none⟩ = some va1
 b0 : W.cell? ⟨w.heap.size + 1 + 1, 0, none⟩ = some vb0
 b1 : W.cell? ⟨w.heap.size + 1 + 1, 1, none⟩ = some vb1
 b2 : W.cell? ⟨w.heap.size + 1 + 1, 2, none⟩ = some vb2
 b3 : W.cell? ⟨w.heap.size + 1 + 1, 3, none⟩ = some vb3
 bel : Below w.heap.size w W
theorem WCA.new (w : World) (vv0 va0 va1 vb0 vb1 vb2 vb3 : Value) : WCA w vv0 va0 va1 vb0 vb1 vb2 vb3 (((w.alloc (.cells #[vv0] 24)).alloc (.cells #[va0, va1] 46)).alloc (.cells #[vb0, vb1, vb2, vb3] 27)) := ⟨by simp [go_sem], by simp [go_sem], by simp [go_sem], by simp [go_sem], by simp [go_sem], by simp [go_sem], by simp [go_sem], (((Below.refl _ _).alloc (Nat.le_refl _) _).alloc (by simp <;> omega) _).alloc (by simp <;> omega) _⟩
theorem WCA.below {w W W' : World} {vv0 va0 va1 vb0 vb1 vb2 vb3 : Value} (h : WCA w vv0 va0 va1 vb0 vb1 vb2 vb3 W) (hb : Below W.heap.size W W') : WCA w vv0 va0 va1 vb0 vb1 vb2 vb3 W' := ⟨BelS.c hb h.v0, BelS.c hb h.a0, BelS.c hb h.a1, BelS.c hb h.b0, BelS.c hb h.b1, BelS.c hb h.b2, BelS.c hb h.b3, h.bel.trans (hb.mono h.bel.size)⟩
/-- What Fits says. -/
def FitR (ws : Wk) (s : Ca) (t : Wa) (b : Bool) (d : Int) : Prop := (CasIs ws s d ∧ d ≠ 0 ∧ b = false) ∨ (CasIs ws s 0 ∧ ¬ WaOk ws t ∧ d = 1 ∧ b = false) ∨ (CasIs ws s 0 ∧ WaOk ws t ∧ d = 0 ∧ b = (allIn t.river s.river && allIn t.boards s.boards))
theorem FitR.exists_ (ws : Wk) (s : Ca) (t : Wa) : ∃ b d, FitR ws s t b d := by
 obtain ⟨d, hd⟩ := CasIs.exists_ ws s
 by_cases h : d = 0
 ·subst h
  by_cases h2 : WaOk ws t
  ·exact ⟨_, 0, .inr (.inr ⟨hd, h2, rfl, rfl⟩)⟩
  ·exact ⟨false, 1, .inr (.inl ⟨hd, h2, rfl, rfl⟩)⟩
 ·exact ⟨false, d, .inl ⟨hd, h, rfl⟩⟩
theorem CasIs.chk0 {ws : Wk} {s : Ca} (h : CasIs ws s 0) : CheckIs ws 0 := by
 rcases h with ⟨_, h⟩ | ⟨_, _, h⟩ | ⟨h, _, _⟩
 ·exact absurd rfl h
 ·omega
 ·exact h
theorem CaOk.b100 {ws : Wk} {s : Ca} (hw : WOk ws) (h : CaOk ws s) : s.river.length ≤ 100000 ∧ s.boards.length ≤ 100000 := by
 have := headsL_len hw
 have := h.r
 have := h.b
 have := hw.tot
 omega
theorem WaOk.ca {ws : Wk} {s : Ca} {t : Wa} (h : WaOk ws t) (hc : CaOk ws s) : t.river.length = s.river.length ∧ t.boards.length = s.boards.length := by
 have h1 := h.r
 have h2 := hc.r
 have h3 := h.b
 have h4 := hc.b
 unfold headsL at h2
 rw [List.length_map] at h2
 omega

set_option maxHeartbeats 8000000 in
set_option maxRecDepth 1000000 in
theorem Fits_any (v cv wv : Value) (ws : Wk) (s : Ca) (t : Wa) (b : Bool) (d : Int) (w : World) (h : RK w.heap.size v ws w) (hq : total ws ≤ 100000) (hs : RCa w.heap.size cv s w) (ht : RWa w.heap.size wv t w) (hd : FitR ws s t b d) :
  Calls Try.prog 29 #[.agg #[v], cv, wv] w fun e w' => e = .returned (.tuple #[.bool b, .int .i64 d]) ∧ Below w.heap.size w w' := by
 obtain ⟨A, c, rfl, -⟩ := (show ∃ A c, v = .slice A ws.length c ∧ True by obtain ⟨A, c, e, _⟩ := h; exact ⟨A, c, e, trivial⟩)
 obtain ⟨A1, c1, A2, c2, rfl⟩ := hs.form
 obtain ⟨B1, d1, B2, d2, B3, d3, B4, d4, rfl⟩ := ht.form
 have C1 := Lib.hid fun (d : Int) (hc : CasIs ws s d) W (hb : Below w.heap.size w W) => CheckCase_any (.slice A ws.length c) _ ws s d W (h.up hb.size hb) (by omega) (hs.up hb.size hb) hc
 have C2 := Lib.hid fun (hk : CheckIs ws 0) (d : Int) (hd : (WaOk ws t ∧ d = 0) ∨ (¬ WaOk ws t ∧ d = 1)) W (hb : Below w.heap.size w W) => CheckWater_any (.slice A ws.length c) _ ws t d W (h.up hb.size hb) (by omega) (ht.up hb.size hb) (hd.elim (fun x => .inr (.inr ⟨hk, x⟩)) (fun x => .inr (.inl ⟨hk, x⟩)))
 have C3 := Lib.hid fun (hw : WOk ws) (hc : CaOk ws s) (ho : WaOk ws t) W (hb : Below w.heap.size w W) => fits_any (.slice A1 s.river.length c1) (.slice A2 s.boards.length c2) (.slice B1 t.river.length d1) (.slice B2 t.boards.length d2) (.slice B3 t.leaks.length d3) (.slice B4 t.losses.length d4) t.river t.boards s.river s.boards W (ht.parts.1.up hb.size hb) (ht.parts.2.1.up hb.size hb) (hs.parts.1.up hb.size hb) (hs.parts.2.up hb.size hb) (by have := ho.ca hc; omega) (by have := ho.ca hc; omega) (by have := hc.b100 hw; omega) (by have := hc.b100 hw; omega)
 have S0 := Lib.hid (WCA.new w (.slice A ws.length c) (.slice A1 s.river.length c1) (.slice A2 s.boards.length c2) (.slice B1 t.river.length d1) (.slice B2 t.boards.length d2) (.slice B3 t.leaks.length d3) (.slice B4 t.losses.length d4))
 have HD := Lib.hid hd
 clear h hs ht hd
 go_enter Try.func29, Try.ntmps29
 go_wp2_with fail
 rcases HD.out with ⟨hc, hd0, rfl⟩ | ⟨hc, hn, rfl, rfl⟩ | ⟨hc, ho, rfl, hb⟩
 ·have hdb : (d != 0) = true := by rw [bne_iff_ne]; exact hd0
  refine (C1.out d hc _ S0.out.bel).mono ?_
  rintro e w1 ⟨rfl, b1⟩
  have S1 := Lib.hid (S0.out.below b1)
  clear b1 hc
  go_wp2_with fail
  refine bodyPost_ret (results_tmp2 rfl _ _ _) rfl ?_
  exact ⟨rfl, S1.out.bel⟩
 all_goals
  refine (C1.out 0 hc _ S0.out.bel).mono ?_
  rintro e w1 ⟨rfl, b1⟩
  have S1 := Lib.hid (S0.out.below b1)
  have x0 := S1.out.v0
  have x1 := S1.out.b0
  have x2 := S1.out.b1
  have x3 := S1.out.b2
  have x4 := S1.out.b3
  have HK := Lib.hid hc
  clear b1 hc
 ·have HN := Lib.hid hn
  clear hn
  go_wp2_with fail
  refine (C2.out HK.out.chk0 1 (.inr ⟨HN.out, rfl⟩) _ S1.out.bel).mono ?_
  rintro e w2 ⟨rfl, b1⟩
  have S2 := Lib.hid (S1.out.below b1)
  clear b1 x0 x1 x2 x3 x4
  go_wp2_with fail
  refine bodyPost_ret (results_tmp2 rfl _ _ _) rfl ?_
  exact ⟨rfl, S2.out.bel⟩
 ·have HO := Lib.hid ho
  have HB := Lib.hid hb
  clear ho hb
  go_wp2_with fail
  refine (C2.out HK.out.chk0 0 (.inl ⟨HO.out, rfl⟩) _ S1.out.bel).mono ?_
  rintro e w2 ⟨rfl, b1⟩
  have S2 := Lib.hid (S1.out.below b1)
  clear b1 x0 x1 x2 x3 x4
  have x1 := S2.out.b0
  have x2 := S2.out.b1
  have x3 := S2.out.b2
  have x4 := S2.out.b3
  have y0 := S2.out.a0
  have y1 := S2.out.a1
  obtain ⟨q, hq⟩ : ∃ q, (allIn t.river s.river && allIn t.boards s.boards) = q := ⟨_, rfl⟩
  rw [hq] at C3 HB
  obtain rfl := HB.out
  clear hq
  go_wp2_with fail
  refine (C3.out HK.out.ok.1 HK.out.ok.2 HO.out _ S2.out.bel).mono ?_
  rintro e w3 ⟨rfl, b1⟩
  have S3 := Lib.hid (S2.out.below b1)
  clear b1 x1 x2 x3 x4 y0 y1
  go_wp2_with fail
  refine bodyPost_ret (results_tmp2 rfl _ _ _) rfl ?_
  exact ⟨rfl, S3.out.bel⟩

set_option maxHeartbeats 8000000 in
set_option maxRecDepth 1000000 in
theorem rFits_any (v cv wv : Value) (ws : Wk) (s : Ca) (t : Wa) (b : Bool) (d : Int) (w : World) (h : RK w.heap.size v ws w) (hq : total ws ≤ 100000) (hs : RCa w.heap.size cv s w) (ht : RWa w.heap.size wv t w) (hd : FitR ws s t b d) :
  Calls Try.prog 61 #[.agg #[v], cv, wv] w fun e w' => e = .returned (.tuple #[.bool b, .int .i64 d]) ∧ Below w.heap.size w w' := by
 obtain ⟨A, c, rfl, -⟩ := (show ∃ A c, v = .slice A ws.length c ∧ True by obtain ⟨A, c, e, _⟩ := h; exact ⟨A, c, e, trivial⟩)
 obtain ⟨A1, c1, A2, c2, rfl⟩ := hs.form
 obtain ⟨B1, d1, B2, d2, B3, d3, B4, d4, rfl⟩ := ht.form
 have C1 := Lib.hid fun (d : Int) (hc : CasIs ws s d) W (hb : Below w.heap.size w W) => rCheckCase_any (.slice A ws.length c) _ ws s d W (h.up hb.size hb) (by omega) (hs.up hb.size hb) hc
 have C2 := Lib.hid fun (hk : CheckIs ws 0) (d : Int) (hd : (WaOk ws t ∧ d = 0) ∨ (¬ WaOk ws t ∧ d = 1)) W (hb : Below w.heap.size w W) => rwater_any A c _ ws t d W (h.up hb.size hb) (ht.up hb.size hb) hk.ok hd
 have C3 := Lib.hid fun (hw : WOk ws) (hc : CaOk ws s) (ho : WaOk ws t) W (hb : Below w.heap.size w W) => rfits_any (.slice A1 s.river.length c1) (.slice A2 s.boards.length c2) (.slice B1 t.river.length d1) (.slice B2 t.boards.length d2) (.slice B3 t.leaks.length d3) (.slice B4 t.losses.length d4) t.river t.boards s.river s.boards W (ht.parts.1.up hb.size hb) (ht.parts.2.1.up hb.size hb) (hs.parts.1.up hb.size hb) (hs.parts.2.up hb.size hb) (by have := ho.ca hc; omega) (by have := ho.ca hc; omega) (by have := hc.b100 hw; omega) (by have := hc.b100 hw; omega)
 have S0 := Lib.hid (WCA.new w (.slice A ws.length c) (.slice A1 s.river.length c1) (.slice A2 s.boards.length c2) (.slice B1 t.river.length d1) (.slice B2 t.boards.length d2) (.slice B3 t.leaks.length d3) (.slice B4 t.losses.length d4))
 have HD := Lib.hid hd
 clear h hs ht hd
 go_enter Try.func61, Try.ntmps61
 go_wp2_with fail
 rcases HD.out with ⟨hc, hd0, rfl⟩ | ⟨hc, hn, rfl, rfl⟩ | ⟨hc, ho, rfl, hb⟩
 ·have hdb : (d != 0) = true := by rw [bne_iff_ne]; exact hd0
  refine (C1.out d hc _ S0.out.bel).mono ?_
  rintro e w1 ⟨rfl, b1⟩
  have S1 := Lib.hid (S0.out.below b1)
  clear b1 hc
  go_wp2_with fail
  refine bodyPost_ret (results_tmp2 rfl _ _ _) rfl ?_
  exact ⟨rfl, S1.out.bel⟩
 all_goals
  refine (C1.out 0 hc _ S0.out.bel).mono ?_
  rintro e w1 ⟨rfl, b1⟩
  have S1 := Lib.hid (S0.out.below b1)
  have x0 := S1.out.v0
  have x1 := S1.out.b0
  have x2 := S1.out.b1
  have x3 := S1.out.b2
  have x4 := S1.out.b3
  have HK := Lib.hid hc
  clear b1 hc
 ·have HN := Lib.hid hn
  clear hn
  go_wp2_with fail
  refine (C2.out HK.out.chk0 1 (.inr ⟨HN.out, rfl⟩) _ S1.out.bel).mono ?_
  rintro e w2 ⟨rfl, b1⟩
  have S2 := Lib.hid (S1.out.below b1)
  clear b1 x0 x1 x2 x3 x4
  go_wp2_with fail
  refine bodyPost_ret (results_tmp2 rfl _ _ _) rfl ?_
  exact ⟨rfl, S2.out.bel⟩
 ·have HO := Lib.hid ho
  have HB := Lib.hid hb
  clear ho hb
  go_wp2_with fail
  refine (C2.out HK.out.chk0 0 (.inl ⟨HO.out, rfl⟩) _ S1.out.bel).mono ?_
  rintro e w2 ⟨rfl, b1⟩
  have S2 := Lib.hid (S1.out.below b1)
  clear b1 x0 x1 x2 x3 x4
  have x1 := S2.out.b0
  have x2 := S2.out.b1
  have x3 := S2.out.b2
  have x4 := S2.out.b3
  have y0 := S2.out.a0
  have y1 := S2.out.a1
  obtain ⟨q, hq⟩ : ∃ q, (allIn t.river s.river && allIn t.boards s.boards) = q := ⟨_, rfl⟩
  rw [hq] at C3 HB
  obtain rfl := HB.out
  clear hq
  go_wp2_with fail
  refine (C3.out HK.out.ok.1 HK.out.ok.2 HO.out _ S2.out.bel).mono ?_
  rintro e w3 ⟨rfl, b1⟩
  have S3 := Lib.hid (S2.out.below b1)
  clear b1 x1 x2 x3 x4 y0 y1
  go_wp2_with fail
  refine bodyPost_ret (results_tmp2 rfl _ _ _) rfl ?_
  exact ⟨rfl, S3.out.bel⟩

def CasedPost (s : Ca) (w : World) (e : Ending) (w' : World) : Prop := ∃ b, e = .returned (.bool b) ∧ (b = true → s.river.length ≤ 100 ∧ s.boards.length ≤ 100) ∧ Below w.heap.size w w'
set_option maxHeartbeats 8000000 in
set_option maxRecDepth 1000000 in
theorem casedL_any (v : Value) (s : Ca) (w : World) (h : RCa w.heap.size v s w) : Calls Try.prog 24 #[v] w (CasedPost s w) := by
 obtain ⟨A1, c1, A2, c2, rfl⟩ := h.form
 clear h
 have hs : (100 : Int) < (s.river.length : Int) ∨ ((s.river.length : Int) ≤ 100 ∧ (100 : Int) < (s.boards.length : Int)) ∨ ((s.river.length : Int) ≤ 100 ∧ (s.boards.length : Int) ≤ 100) := by omega
 have HB : Hid (Below w.heap.size w (w.alloc (.cells #[.slice A1 s.river.length c1, .slice A2 s.boards.length c2] 46))) := Lib.hid ((Below.refl _ _).alloc (Nat.le_refl _) _)
 rcases hs with h1 | ⟨h1, h2⟩ | ⟨h1, h2⟩
 all_goals
  go_enter Try.func24, Try.ntmps24
  go_wp2_with fail
  go_ret
  first
   | exact ⟨false, rfl, (fun h => by cases h), HB.out⟩
   | exact ⟨true, rfl, (fun _ => by omega), HB.out⟩
   | exact ⟨_, rfl, (fun h => by have := of_decide_eq_true h; omega), HB.out⟩
end Go.Proofs.Ytkoacclbempmdaa

/- Contracts of gives and CheckEnds. -/
namespace Go.Proofs.Ytkoacclbempmdaa
open Go.RowKit
attribute [local go_sem] Oper.semAt_some

/-- Water fits a case, and so much flows through an outlet then. -/
def gvB (ws : Wk) (s : Ca) (i : Nat) (t : Wa) (fl : Int) : Prop := WaOk ws t ∧ (allIn t.river s.river && allIn t.boards s.boards) = true ∧ (flowF ws t).thr.getD i 0 = fl

set_option maxHeartbeats 8000000 in
set_option maxRecDepth 1000000 in
theorem gives_any (A : Option Addr) (c : Nat) (cv wv : Value) (ws : Wk) (s : Ca) (t : Wa) (id fl : Int) (i : Nat) (p : Pl) (bb : Bool) (w : World) (h : RK w.heap.size (.slice A ws.length c) ws w) (hs : RCa w.heap.size cv s w) (ht : RWa w.heap.size wv t w)
  (hw : WOk ws) (hc : CaOk ws s) (hf : FstIs (fun o : Ou => o.id) (outs ws) id i) (hp : (allP ws)[i]? = some p) (hbb : bb = true ↔ gvB ws s i t fl) :
  Calls Try.prog 85 #[.agg #[.slice A ws.length c], cv, .int .i64 id, wv, .int .i64 fl] w fun e w' => e = .returned (.bool bb) ∧ Below w.heap.size w w' := by
 obtain ⟨A1, c1, A2, c2, rfl⟩ := hs.form
 obtain ⟨B1, d1, B2, d2, B3, d3, B4, d4, rfl⟩ := ht.form
 have hto := hw.tot
 have C1 := Lib.hid fun (b1 : Bool) (hb1 : b1 = true ↔ WaOk ws t) W (hb : Below w.heap.size w W) => isWater_any A c _ ws t b1 W (h.up hb.size hb) (ht.up hb.size hb) hw hb1
 have C2 := Lib.hid fun (ho : WaOk ws t) W (hb : Below w.heap.size w W) => fits_any (.slice A1 s.river.length c1) (.slice A2 s.boards.length c2) (.slice B1 t.river.length d1) (.slice B2 t.boards.length d2) (.slice B3 t.leaks.length d3) (.slice B4 t.losses.length d4) t.river t.boards s.river s.boards W (ht.parts.1.up hb.size hb) (ht.parts.2.1.up hb.size hb) (hs.parts.1.up hb.size hb) (hs.parts.2.up hb.size hb) (by have := ho.ca hc; omega) (by have := ho.ca hc; omega) (by have := hc.b100 hw; omega) (by have := hc.b100 hw; omega)
 have C3 := Lib.hid fun W (hb : Below w.heap.size w W) => find_any (.slice A ws.length c) ws id W (h.up hb.size hb) (by omega)
 have C4 := Lib.hid fun (ho : WaOk ws t) W (hb : Below w.heap.size w W) => run_any A c _ ws t W (h.up hb.size hb) (ht.up hb.size hb) hw ho
 have S0 := Lib.hid (WCA.new w (.slice A ws.length c) (.slice A1 s.river.length c1) (.slice A2 s.boards.length c2) (.slice B1 t.river.length d1) (.slice B2 t.boards.length d2) (.slice B3 t.leaks.length d3) (.slice B4 t.losses.length d4))
 have HBB := Lib.hid hbb
 have HF := Lib.hid hf
 have HP := Lib.hid hp
 have HI : Hid (i < 60) := Lib.hid (by have := lt_total hp; omega)
 have x0 := S0.out.v0
 have x1 := S0.out.b0
 have x2 := S0.out.b1
 have x3 := S0.out.b2
 have x4 := S0.out.b3
 clear h hs ht hw hc hf hp hbb hto
 by_cases ho : WaOk ws t
 ·have HO := Lib.hid ho
  clear ho
  obtain ⟨q, hq⟩ : ∃ q, (allIn t.river s.river && allIn t.boards s.boards) = q := ⟨_, rfl⟩
  rw [hq] at C2
  have HQ := Lib.hid hq
  clear hq
  go_enter Try.func85, Try.ntmps85
  go_wp2_with fail
  refine (C1.out true ⟨fun _ => HO.out, fun _ => rfl⟩ _ S0.out.bel).mono ?_
  rintro e w1 ⟨rfl, b1⟩
  have S1 := Lib.hid (S0.out.below b1)
  clear b1 x0 x1 x2 x3 x4
  have x0 := S1.out.v0
  have x1 := S1.out.b0
  have x2 := S1.out.b1
  have x3 := S1.out.b2
  have x4 := S1.out.b3
  have y0 := S1.out.a0
  have y1 := S1.out.a1
  go_wp2_with fail
  refine (C2.out HO.out _ S1.out.bel).mono ?_
  rintro e w2 ⟨rfl, b1⟩
  have S2 := Lib.hid (S1.out.below b1)
  clear b1 x0 x1 x2 x3 x4 y0 y1
  cases q with
  | false =>
   have hv : bb = false := by
    have := HBB.out
    cases bb with
    | false => rfl
    | true => have := (this.1 rfl).2.1; rw [HQ.out] at this; cases this
   go_wp2_with fail
   go_ret
   exact ⟨by rw [hv]; rfl, S2.out.bel⟩
  | true =>
   have x0 := S2.out.v0
   go_wp2_with fail
   refine (C3.out _ S2.out.bel).mono ?_
   rintro e w3 ⟨pa, pb, pc, pf, rfl, hfr, b1⟩
   obtain ⟨rfl, rfl, rfl, rfl⟩ := HF.out.find HP.out hfr
   have S3 := Lib.hid (S2.out.below b1)
   clear b1 x0 hfr
   obtain ⟨W4, hW4⟩ : ∃ W4, w3.alloc (.cells #[.int .i64 i, .int .i64 p.c, .int .i64 p.n] 133) = W4 := ⟨_, rfl⟩
   have b4 : Below w3.heap.size w3 W4 := by rw [← hW4]; exact (Below.refl _ _).alloc (Nat.le_refl _) _
   have S4 := Lib.hid (S3.out.below b4)
   have P4 : Hid (W4.cell? ⟨w3.heap.size, 0, none⟩ = some (.int .i64 i)) := Lib.hid (by rw [← hW4]; simp [go_sem])
   have HW4 := Lib.hid hW4
   clear hW4 b4
   obtain ⟨F, hF⟩ : ∃ F, flowF ws t = F := ⟨_, rfl⟩
   have CR := Lib.hid (C4.out HO.out)
   rw [hF] at CR
   have FT := Lib.hid (fs_thr F)
   obtain ⟨f5, hf5⟩ : ∃ f, F.thr.getD i 0 = f := ⟨_, rfl⟩
   have FI := Lib.hid (fs_at F i (by have := HI.out; omega))
   rw [hf5] at FI
   have hi1 : (i : Int) < 60 := by have := HI.out; omega
   have hi2 : (0 : Int) ≤ (i : Int) := by omega
   have HV : Hid (bb = (f5 == fl)) := Lib.hid (by
    have := HBB.out
    unfold gvB at this
    rw [hF, hf5, HQ.out] at this
    rw [Bool.eq_iff_iff, this, beq_iff_eq]
    exact ⟨fun h => h.2.2, fun h => ⟨HO.out, rfl, h⟩⟩)
   have z0 := S4.out.v0
   have z1 := S4.out.b0
   have z2 := S4.out.b1
   have z3 := S4.out.b2
   have z4 := S4.out.b3
   have z5 := P4.out
   clear hF hf5
   go_upto_region 4 with fail
   rw [HW4.out]
   refine wp_region_held_drew (S := BelS W4) (by kernel_rfl) (BelS.drew0 _) (fun J0 => ?_)
   have KK1 := Lib.hid fun (w_ : World) (hSw : BelS _ w_) => And.intro (hSw.c z0) (And.intro (hSw.c z1) (And.intro (hSw.c z2) (And.intro (hSw.c z3) (And.intro (hSw.c z4) (hSw.c z5)))))
   refine tw 0 29 J0 ?_ (hy := by intro w' hSw; have r6 := FT.out w'; have r7 := FI.out w'; have q := KK1.out w' hSw; go_simp; try with_reducible rfl)
   try simp only [aS]
   refine tw 1 30 J0 ?_ (hy := by intro w' hSw; have r6 := FT.out w'; have r7 := FI.out w'; have q := KK1.out w' hSw; go_simp; try with_reducible rfl)
   try simp only [aS]
   refine tw 4 33 J0 ?_ (hy := by intro w' hSw; have r6 := FT.out w'; have r7 := FI.out w'; have q := KK1.out w' hSw; go_simp; try with_reducible rfl)
   try simp only [aS]
   refine tw 5 34 J0 ?_ (hy := by intro w' hSw; have r6 := FT.out w'; have r7 := FI.out w'; have q := KK1.out w' hSw; go_simp; try with_reducible rfl)
   try simp only [aS]
   refine tw 7 36 J0 ?_ (hy := by intro w' hSw; have r6 := FT.out w'; have r7 := FI.out w'; have q := KK1.out w' hSw; go_simp; try with_reducible rfl)
   try simp only [aS]
   refine wpAnyH_ready (rs := [2]) (by kernel_rfl) (by simp) ?_
   refine AllReadyH.cons rfl (fun K hK => ?_) AllReadyH.nil
   go_simp
   refine (CR.out _ (S4.out.bel.trans ((BelS.b J0).mono S4.out.bel.size))).mono ?_
   rintro e wq ⟨rfl, bq⟩
   have J1 := J0.below bq
   clear bq
   refine hK.out _ _ J1 (fun _ => ?_)
   clear hK K
   try simp only [aS]
   refine tw 3 32 J1 ?_ (hy := by intro w' hSw; have r6 := FT.out w'; have r7 := FI.out w'; have q := KK1.out w' hSw; go_simp; try with_reducible rfl)
   try simp only [aS]
   refine tw 6 35 J1 ?_ (hy := by intro w' hSw; have r6 := FT.out w'; have r7 := FI.out w'; have q := KK1.out w' hSw; go_simp; try with_reducible rfl)
   try simp only [aS]
   refine tw 8 37 J1 ?_ (hy := by intro w' hSw; have r6 := FT.out w'; have r7 := FI.out w'; have q := KK1.out w' hSw; go_simp; try with_reducible rfl)
   try simp only [aS]
   refine tw 9 10 J1 ?_ (hy := by intro w' hSw; have r6 := FT.out w'; have r7 := FI.out w'; have q := KK1.out w' hSw; go_simp; try with_reducible rfl)
   try simp only [aS]
   refine wpAnyH_done (by kernel_rfl) ?_ _
   have BF := Lib.hid (BelS.b J1)
   clear J0 J1 z0 z1 z2 z3 z4 z5
   go_wp2_with fail
   go_ret
   exact ⟨by rw [HV.out]; rfl, S4.out.bel.trans (BF.out.mono S4.out.bel.size)⟩
 ·have hv : bb = false := by
   have := HBB.out
   cases bb with
   | false => rfl
   | true => exact absurd (this.1 rfl).1 ho
  have HN := Lib.hid ho
  clear ho
  go_enter Try.func85, Try.ntmps85
  go_wp2_with fail
  refine (C1.out false ⟨fun h => (by cases h), fun h => absurd h HN.out⟩ _ S0.out.bel).mono ?_
  rintro e w1 ⟨rfl, b1⟩
  have S1 := Lib.hid (S0.out.below b1)
  clear b1 x0 x1 x2 x3 x4
  go_wp2_with fail
  go_ret
  exact ⟨by rw [hv]; rfl, S1.out.bel⟩
end Go.Proofs.Ytkoacclbempmdaa

/- Contract of CheckEnds. -/
namespace Go.Proofs.Ytkoacclbempmdaa
open Go.RowKit
attribute [local go_sem] Oper.semAt_some

/-- Works, a case and a supply that a function got. -/
structure WCS (w : World) (v a0 a1 : Value) (lo hi : Int) (u0 u1 u2 u3 u4 u5 u6 u7 : Value) (W : World) : Prop where
 v0 : W.cell? ⟨w.heap.size, 0, none⟩ = some v
 a0 : W.cell? ⟨w.heap.size + 1, 0, none⟩ = some a0
 a1 : W.cell? ⟨w.heap.size + 1, 1, none⟩ = some a1
 s0 : W.cell? ⟨w.heap.size + 1 + 1, 0, none⟩ = some (.int .i64 lo)
 s1 : W.cell? ⟨w.heap.size + 1 + 1, 1, none⟩ = some (.int .i64 hi)
 s2 : W.cell? ⟨w.heap.size + 1 + 1, 2, none⟩ = some (u0)
 s3 : W.cell? ⟨w.heap.size + 1 + 1, 3, none⟩ = some (u1)
 s4 : W.cell? ⟨w.heap.size + 1 + 1, 4, none⟩ = some (u2)
 s5 : W.cell? ⟨w.heap.size + 1 + 1, 5, none⟩ = some (u3)
 s6 : W.cell? ⟨w.heap.size + 1 + 1, 6, none⟩ = some (u4)
 s7 : W.cell? ⟨w.heap.size + 1 + 1, 7, none⟩ = some (u5)
 s8 : W.cell? ⟨w.heap.size + 1 + 1, 8, none⟩ = some (u6)
 s9 : W.cell? ⟨w.heap.size + 1 + 1, 9, none⟩ = some (u7)
 bel : Below w.heap.size w W
theorem WCS.new (w : World) (v a0 a1 : Value) (lo hi : Int) (u0 u1 u2 u3 u4 u5 u6 u7 : Value) : WCS w v a0 a1 lo hi u0 u1 u2 u3 u4 u5 u6 u7 (((w.alloc (.cells #[v] 24)).alloc (.cells #[a0, a1] 46)).alloc (.cells #[.int .i64 lo, .int .i64 hi, u0, u1, u2, u3, u4, u5, u6, u7] 50)) := ⟨by simp [go_sem], by simp [go_sem], by simp [go_sem], by simp [go_sem], by simp [go_sem], by simp [go_sem], by simp [go_sem], by simp [go_sem], by simp [go_sem], by simp [go_sem], by simp [go_sem], by simp [go_sem], by simp [go_sem], (((Below.refl _ _).alloc (Nat.le_refl _) _).alloc (by simp) _).alloc (by simp; omega) _⟩
theorem WCS.below {w W W' : World} {v a0 a1 : Value} {lo hi : Int} {u0 u1 u2 u3 u4 u5 u6 u7 : Value} (h : WCS w v a0 a1 lo hi u0 u1 u2 u3 u4 u5 u6 u7 W) (hb : Below W.heap.size W W') : WCS w v a0 a1 lo hi u0 u1 u2 u3 u4 u5 u6 u7 W' := ⟨BelS.c hb h.v0, BelS.c hb h.a0, BelS.c hb h.a1, BelS.c hb h.s0, BelS.c hb h.s1, BelS.c hb h.s2, BelS.c hb h.s3, BelS.c hb h.s4, BelS.c hb h.s5, BelS.c hb h.s6, BelS.c hb h.s7, BelS.c hb h.s8, BelS.c hb h.s9, h.bel.trans (hb.mono h.bel.size)⟩
/-- A supply is that of an outlet. -/
def SupOk (ws : Wk) (s : Ca) (id : Int) (i : Nat) (lo hi : Int) (x y : Wa) : Prop := (lo = flE ws s id i 1 ∧ hi = flE ws s id i (-1)) ∧ gvB ws s i x lo ∧ gvB ws s i y hi
/-- What CheckEnds says. -/
def CkE (ws : Wk) (s : Ca) (id i d0 lo hi : Int) (x y : Wa) (d : Int) : Prop := CasAt ws s id i d0 ∧ ((d0 ≠ 0 ∧ d = d0) ∨ (d0 = 0 ∧ SupOk ws s id i.toNat lo hi x y ∧ d = 0) ∨ (d0 = 0 ∧ ¬ SupOk ws s id i.toNat lo hi x y ∧ d = 8))
theorem CkE.exists_ (ws : Wk) (s : Ca) (id lo hi : Int) (x y : Wa) : ∃ i d0 d, CkE ws s id i d0 lo hi x y d := by
 obtain ⟨i, d0, h⟩ := CasAt.exists_ ws s id
 by_cases h0 : d0 = 0
 ·by_cases h1 : SupOk ws s id i.toNat lo hi x y
  ·exact ⟨i, d0, 0, h, .inr (.inl ⟨h0, h1, rfl⟩)⟩
  ·exact ⟨i, d0, 8, h, .inr (.inr ⟨h0, h1, rfl⟩)⟩
 ·exact ⟨i, d0, d0, h, .inl ⟨h0, rfl⟩⟩

set_option maxHeartbeats 8000000 in
set_option maxRecDepth 1000000 in
theorem CheckEnds_any (v cv : Value) (u0 u1 u2 u3 u4 u5 u6 u7 : Value) (ws : Wk) (s : Ca) (x y : Wa) (id i d0 lo hi d : Int) (w : World) (h : RK w.heap.size v ws w) (ht : total ws ≤ 100000) (hs : RCa w.heap.size cv s w)
  (hx : RWa w.heap.size (.agg #[u0, u1, u2, u3]) x w) (hy : RWa w.heap.size (.agg #[u4, u5, u6, u7]) y w) (hid : (Lit.int .i64 id).wf = true) (hd : CkE ws s id i d0 lo hi x y d) :
  Calls Try.prog 28 #[.agg #[v], cv, .int .i64 id, .agg #[.int .i64 lo, .int .i64 hi, u0, u1, u2, u3, u4, u5, u6, u7]] w fun e w' => e = .returned (.int .i64 d) ∧ Below w.heap.size w w' := by
 obtain ⟨A, c, rfl, -⟩ := (show ∃ A c, v = .slice A ws.length c ∧ True by obtain ⟨A, c, e, _⟩ := h; exact ⟨A, c, e, trivial⟩)
 obtain ⟨A1, c1, A2, c2, rfl⟩ := hs.form
 have C1 := Lib.hid fun W (hb : Below w.heap.size w W) => checkCaseOf_any (.slice A ws.length c) _ ws s id i d0 W (h.up hb.size hb) ht (hs.up hb.size hb) hd.1
 have C2 := Lib.hid fun (n : Nat) (p : Pl) (hw : WOk ws) (hc : CaOk ws s) (hf : FstIs (fun o : Ou => o.id) (outs ws) id n) (hp : (allP ws)[n]? = some p) W (hb : Below w.heap.size w W) => endsOf_any A c _ ws s id n p W (h.up hb.size hb) (hs.up hb.size hb) hw hc hid hf hp
 have C3 := Lib.hid fun (n : Nat) (p : Pl) (b : Bool) (hw : WOk ws) (hc : CaOk ws s) (hf : FstIs (fun o : Ou => o.id) (outs ws) id n) (hp : (allP ws)[n]? = some p) (hb : b = true ↔ gvB ws s n x lo) W (hbb : Below w.heap.size w W) => gives_any A c _ (.agg #[u0, u1, u2, u3]) ws s x id lo n p b W (h.up hbb.size hbb) (hs.up hbb.size hbb) (hx.up hbb.size hbb) hw hc hf hp hb
 have C4 := Lib.hid fun (n : Nat) (p : Pl) (b : Bool) (hw : WOk ws) (hc : CaOk ws s) (hf : FstIs (fun o : Ou => o.id) (outs ws) id n) (hp : (allP ws)[n]? = some p) (hb : b = true ↔ gvB ws s n y hi) W (hbb : Below w.heap.size w W) => gives_any A c _ (.agg #[u4, u5, u6, u7]) ws s y id hi n p b W (h.up hbb.size hbb) (hs.up hbb.size hbb) (hy.up hbb.size hbb) hw hc hf hp hb
 have S0 := Lib.hid (WCS.new w (.slice A ws.length c) (.slice A1 s.river.length c1) (.slice A2 s.boards.length c2) lo hi u0 u1 u2 u3 u4 u5 u6 u7)
 have HD := Lib.hid hd
 clear h hs hx hy hd
 go_enter Try.func28, Try.ntmps28
 go_wp2_with fail
 refine (C1.out _ S0.out.bel).mono ?_
 rintro e w1 ⟨rfl, b1⟩
 have S1 := Lib.hid (S0.out.below b1)
 clear b1 S0 C1
 by_cases hd0 : d0 = 0
 ·subst hd0
  obtain ⟨hw, hc, n, p, rfl, hf, hp⟩ := HD.out.1.ok
  have HX : Hid ((SupOk ws s id n lo hi x y ∧ d = 0) ∨ (¬ SupOk ws s id n lo hi x y ∧ d = 8)) := Lib.hid (by
   rcases HD.out.2 with ⟨a, -⟩ | ⟨-, a⟩ | ⟨-, a⟩
   ·exact absurd rfl a
   ·exact .inl a
   ·exact .inr a)
  obtain ⟨g1, hg1⟩ : ∃ b : Bool, b = true ↔ gvB ws s n x lo := by
   by_cases h : gvB ws s n x lo
   ·exact ⟨true, by simp [h]⟩
   ·exact ⟨false, by simp [h]⟩
  obtain ⟨g2, hg2⟩ : ∃ b : Bool, b = true ↔ gvB ws s n y hi := by
   by_cases h : gvB ws s n y hi
   ·exact ⟨true, by simp [h]⟩
   ·exact ⟨false, by simp [h]⟩
  have E2 := Lib.hid (C2.out n p hw hc hf hp)
  have E3 := Lib.hid (C3.out n p g1 hw hc hf hp hg1)
  have E4 := Lib.hid (C4.out n p g2 hw hc hf hp hg2)
  obtain ⟨f1, hf1⟩ : ∃ f, flE ws s id n 1 = f := ⟨_, rfl⟩
  obtain ⟨f2, hf2⟩ : ∃ f, flE ws s id n (-1) = f := ⟨_, rfl⟩
  have HS : Hid (SupOk ws s id n lo hi x y ↔ ((lo = f1 ∧ hi = f2) ∧ g1 = true ∧ g2 = true)) := Lib.hid (by unfold SupOk; rw [hf1, hf2, hg1, hg2])
  rw [hf1, hf2] at E2
  have SF := Lib.hid fun w (a1 a2 a3 a4 d1 d2 d3 d4 : Value) => sup_flow f1 f2 w (a1 := a1) (a2 := a2) (a3 := a3) (a4 := a4) (d1 := d1) (d2 := d2) (d3 := d3) (d4 := d4)
  clear hw hc hf hp hg1 hg2 hf1 hf2 C2 C3 C4
  have z0 := S1.out.v0
  have z1 := S1.out.a0
  have z2 := S1.out.a1
  have z3 := S1.out.s0
  have z4 := S1.out.s1
  go_upto_region 4 with fail
  refine wp_region_held_drew (S := BelS w1) (by kernel_rfl) (BelS.drew0 _) (fun J0 => ?_)
  have KK1 := Lib.hid fun (w_ : World) (hSw : BelS _ w_) => And.intro (hSw.c z0) (And.intro (hSw.c z1) (And.intro (hSw.c z2) (And.intro (hSw.c z3) (hSw.c z4))))
  refine tk KK1 0 17 J0 ?_
  try simp only [aS]
  refine tk KK1 1 18 J0 ?_
  try simp only [aS]
  refine tk KK1 2 19 J0 ?_
  try simp only [aS]
  refine tk KK1 3 20 J0 ?_
  try simp only [aS]
  refine tk KK1 4 21 J0 ?_
  try simp only [aS]
  refine wpAnyH_ready (rs := [5]) (by kernel_rfl) (by simp) ?_
  refine AllReadyH.cons rfl (fun K hK => ?_) AllReadyH.nil
  go_simp
  refine (E2.out _ (S1.out.bel.trans ((BelS.b J0).mono S1.out.bel.size))).mono ?_
  rintro e wq ⟨a1, a2, a3, a4, d1, d2, d3, d4, rfl, -, -, bq⟩
  have J1 := J0.below bq
  clear bq
  refine hK.out _ _ J1 (fun _ => ?_)
  clear hK K
  try simp only [aS]
  refine tw 6 23 J1 ?_ (hy := by intro w' hSw; have sf := SF.out w' a1 a2 a3 a4 d1 d2 d3 d4; go_simp; try with_reducible rfl)
  try simp only [aS]
  refine takeW (i := 7) (d := some 24) (v := .bool (!(decide (lo = f1) && decide (hi = f2)))) rfl rfl (by kernel_rfl) (by kernel_rfl) (by kernel_rfl) (fun _ _ _ h => h) (by rfl) ?_ J1 ?_
  ·(intro w' hSw; go_simp; by_cases e1 : lo = f1 <;> by_cases e2 : hi = f2 <;> simp [e1, e2])
  try simp only [aS]
  refine wpAnyH_done (by kernel_rfl) ?_ _
  have S2 := Lib.hid (S1.out.below (BelS.b J1))
  clear J0 J1 z0 z1 z2 z3 z4 S1
  obtain ⟨W2, hW2⟩ : ∃ W2, wq = W2 := ⟨_, rfl⟩
  rw [hW2] at S2 ⊢
  clear hW2
  by_cases hfl : lo = f1 ∧ hi = f2
  ·have hfb : (!(decide (lo = f1) && decide (hi = f2))) = false := by simp [hfl]
   rw [hfb]
   have HFL := Lib.hid hfl
   have z0 := S2.out.v0
   have z1 := S2.out.a0
   have z2 := S2.out.a1
   have y0 := S2.out.s0
   have y1 := S2.out.s1
   have y2 := S2.out.s2
   have y3 := S2.out.s3
   have y4 := S2.out.s4
   have y5 := S2.out.s5
   have y6 := S2.out.s6
   have y7 := S2.out.s7
   have y8 := S2.out.s8
   have y9 := S2.out.s9
   clear hfl hfb
   go_wp2_with fail
   refine (E3.out _ S2.out.bel).mono ?_
   rintro e w3 ⟨rfl, b1⟩
   have S3 := Lib.hid (S2.out.below b1)
   clear b1 z0 z1 z2 y0 y1 y2 y3 y4 y5 y6 y7 y8 y9
   cases g1 with
   | false =>
    have hv : d = 8 := HX.out.elim (fun h => by have := (HS.out.1 h.1).2.1; cases this) (·.2)
    go_wp2_with fail
    go_ret
    exact ⟨by rw [hv]; rfl, S3.out.bel⟩
   | true =>
    have z0 := S3.out.v0
    have z1 := S3.out.a0
    have z2 := S3.out.a1
    have y0 := S3.out.s0
    have y1 := S3.out.s1
    have y2 := S3.out.s2
    have y3 := S3.out.s3
    have y4 := S3.out.s4
    have y5 := S3.out.s5
    have y6 := S3.out.s6
    have y7 := S3.out.s7
    have y8 := S3.out.s8
    have y9 := S3.out.s9
    go_wp2_with fail
    refine (E4.out _ S3.out.bel).mono ?_
    rintro e w4 ⟨rfl, b1⟩
    have S4 := Lib.hid (S3.out.below b1)
    clear b1 z0 z1 z2 y0 y1 y2 y3 y4 y5 y6 y7 y8 y9
    cases g2 with
    | false =>
     have hv : d = 8 := HX.out.elim (fun h => by have := (HS.out.1 h.1).2.2; cases this) (·.2)
     go_wp2_with fail
     go_ret
     exact ⟨by rw [hv]; rfl, S4.out.bel⟩
    | true =>
     have hv : d = 0 := HX.out.elim (·.2) (fun h => absurd (HS.out.2 (by simp [HFL.out])) h.1)
     go_wp2_with fail
     go_ret
     exact ⟨by rw [hv]; rfl, S4.out.bel⟩
  ·have hfb : (!(decide (lo = f1) && decide (hi = f2))) = true := by
    rw [Bool.not_eq_true', Bool.and_eq_false_iff, decide_eq_false_iff_not, decide_eq_false_iff_not]
    by_cases e : lo = f1
    ·exact .inr (fun e2 => hfl ⟨e, e2⟩)
    ·exact .inl e
   rw [hfb]
   have hv : d = 8 := HX.out.elim (fun h => absurd (HS.out.1 h.1).1 hfl) (·.2)
   clear hfb
   go_wp2_with fail
   go_ret
   exact ⟨by rw [hv]; rfl, S2.out.bel⟩
 ·have hdb : (d0 != 0) = true := by rw [bne_iff_ne]; exact hd0
  have hv : d = d0 := by
   rcases HD.out.2 with ⟨-, a⟩ | ⟨a, -⟩ | ⟨a, -⟩
   ·exact a
   ·exact absurd a hd0
   ·exact absurd a hd0
  go_wp2_with fail
  go_ret
  exact ⟨by rw [hv]; rfl, S1.out.bel⟩
end Go.Proofs.Ytkoacclbempmdaa

/- Plain mathematics: more by its signs gives an outlet no less. -/
namespace Go.Proofs.Ytkoacclbempmdaa
open Go.RowKit

/-- If a carrier of a path is fed, its feeder is on the path. -/
theorem PathIs.feeder {ws : Wk} {i : Nat} {l : List Nat} (h : PathIs ws i l) : ∀ k ∈ l, ∀ q, (allP ws)[k]? = some q → ∀ j : Nat, FstIs (fun o : Ou => o.into) (outs ws) q.c j → j ∈ l := by
 induction h with
 | head hp hf =>
  intro k hk q hq j hj
  rw [List.mem_singleton] at hk
  subst hk
  rw [hp] at hq
  cases hq
  have := hf.unique hj
  omega
 | @step i j0 p0 l hp hf h ih =>
  intro k hk q hq j hj
  rcases List.mem_append.1 hk with hk | hk
  ·exact List.mem_append.2 (.inl (ih k hk q hq j hj))
  ·rw [List.mem_singleton] at hk
   subst hk
   rw [hp] at hq
   cases hq
   have := hf.unique hj
   obtain rfl : j0 = j := by omega
   exact List.mem_append.2 (.inl h.self_mem)
/-- The outlet of a path on a carrier. -/
theorem endE_pos {ws : Wk} (hw : WOk ws) {i : Nat} {p : Pl} (hp : (allP ws)[i]? = some p) {c : Nat} (hc : 0 < endE ws p.o.id c) : ∃ (k : Nat) (q : Pl), k ∈ pathOf ws i ∧ (allP ws)[k]? = some q ∧ q.c = c ∧ endE ws p.o.id c = q.n + 1 := by
 by_cases h : ∃ (k : Nat) (q : Pl), k ∈ pathOf ws i ∧ (allP ws)[k]? = some q ∧ q.c = c
 ·obtain ⟨k, q, hk, hq, rfl⟩ := h
  exact ⟨k, q, hk, hq, rfl, endE_at hw hp hk hq⟩
 ·rw [endE_none hw hp (fun k hk q hq e => h ⟨k, q, hk, hq, e⟩)] at hc
  omega
/-- What leads into a carrier of a path is on the path. -/
theorem endE_into {ws : Wk} (hw : WOk ws) {i m : Nat} {p q : Pl} (hp : (allP ws)[i]? = some p) (hq : (allP ws)[m]? = some q) {c : Nat} (hc : 0 < endE ws p.o.id c) (hi : q.o.into = c) : endE ws p.o.id q.c = q.n + 1 := by
 obtain ⟨k, r, hk, hr, rfl, -⟩ := endE_pos hw hp hc
 have hP := pathOf_is hw (lt_total hp)
 have ho := (outs_get hq).1
 obtain ⟨x, hx⟩ := FstIs.exists_ (fun o : Ou => o.into) (outs ws) r.c
 have hx' := hx
 rcases hx with ⟨j, o, hj, he, -, rfl⟩ | ⟨hn, -⟩
 ·have hjm : j = m := by
   obtain ⟨qj, hqj⟩ := at_total (ws := ws) (n := j) (by have := (List.getElem?_eq_some_iff.1 hj).1; rw [outs_len] at this; exact this)
   have hoj := (outs_get hqj).1
   rw [hj] at hoj
   cases hoj
   have he : qj.o.into = r.c := he
   rcases Nat.lt_trichotomy j m with h | h | h
   ·exact absurd (he.trans hi.symm) ((hw.one j m qj q hqj hq h).2 (by omega))
   ·exact h
   ·exact absurd (hi.trans he.symm) ((hw.one m j q qj hq hqj h).2 (by omega))
  subst hjm
  exact endE_at hw hp (hP.feeder k hk r hr j hx') hq
 ·exact absurd hi (hn m q.o ho)

/-- What has a sign is no less in a second water, or no more. -/
structure UpS (ws : Wk) (e : Nat → Nat) (s t : Wa) : Prop where
 r : ∀ (k c : Nat) (x y : Int), (headsN ws)[k]? = some c → s.river[k]? = some x → t.river[k]? = some y → 0 < e c → x ≤ y
 b : ∀ (i : Nat) (p : Pl) (x y : Int), (allP ws)[i]? = some p → s.boards[i]? = some x → t.boards[i]? = some y → (p.n + 1 = e p.c → x ≤ y) ∧ (p.n + 1 < e p.c → y ≤ x)
 k : ∀ (i : Nat) (p : Pl) (x y : Int), (allP ws)[i]? = some p → s.leaks[i]? = some x → t.leaks[i]? = some y → (p.n + 1 = e p.c → x ≤ y) ∧ (p.n + 1 < e p.c → y ≤ x)
 l : ∀ (i : Nat) (p : Pl) (x y : Int), (allP ws)[i]? = some p → s.losses[i]? = some x → t.losses[i]? = some y → p.n < e p.c → y ≤ x

theorem ps_mono {o : Ou} (h : OuOk o) {a b : Nat} {x y : Int} (hx : o.ps[a]? = some x) (hy : o.ps[b]? = some y) (hab : a ≤ b) : x ≤ y := by
 rcases Nat.lt_or_ge a b with h' | h'
 ·exact Int.le_of_lt (h.pm a b x y hx hy h')
 ·obtain rfl : a = b := by omega
  rw [hx] at hy
  cases hy
  exact Int.le_refl _

section
variable {ws : Wk} {e : Nat → Nat} {s t : Wa} {n : Nat} {q : Pl}
theorem UpS.loss (hw : WOk ws) (hs : WaOk ws s) (ht : WaOk ws t) (hu : UpS ws e s t) (hq : (allP ws)[n]? = some q) (he : q.n < e q.c) : t.losses.getD q.at_ 0 ≤ s.losses.getD q.at_ 0 := by
 obtain ⟨b1, k1, l1, c1, hb1, hk1, hl1, hc1, -, -, -, -, -, -, -, e1, f1⟩ := hs.at_ hw hq
 obtain ⟨b2, k2, l2, c2, hb2, hk2, hl2, hc2, -, -, -, -, -, -, -, e2, f2⟩ := ht.at_ hw hq
 rw [f1, f2]
 exact hu.l n q l1 l2 hq hl1 hl2 he
theorem UpS.cap_up (hw : WOk ws) (hs : WaOk ws s) (ht : WaOk ws t) (hu : UpS ws e s t) (hq : (allP ws)[n]? = some q) (he : q.n + 1 = e q.c) : s.cap q ≤ t.cap q := by
 obtain ⟨b1, k1, l1, c1, hb1, hk1, hl1, hc1, -, -, -, -, -, -, -, e1, f1⟩ := hs.at_ hw hq
 obtain ⟨b2, k2, l2, c2, hb2, hk2, hl2, hc2, -, -, -, -, -, -, -, e2, f2⟩ := ht.at_ hw hq
 have h1 := (hu.b n q b1 b2 hq hb1 hb2).1 he
 have h2 := (hu.k n q k1 k2 hq hk1 hk2).1 he
 have h3 := ps_mono (hw.ou hq) hc1 hc2 (by omega)
 omega
theorem UpS.cap_down (hw : WOk ws) (hs : WaOk ws s) (ht : WaOk ws t) (hu : UpS ws e s t) (hq : (allP ws)[n]? = some q) (he : q.n + 1 < e q.c) : t.cap q ≤ s.cap q := by
 obtain ⟨b1, k1, l1, c1, hb1, hk1, hl1, hc1, -, -, -, -, -, -, -, e1, f1⟩ := hs.at_ hw hq
 obtain ⟨b2, k2, l2, c2, hb2, hk2, hl2, hc2, -, -, -, -, -, -, -, e2, f2⟩ := ht.at_ hw hq
 have h1 := (hu.b n q b1 b2 hq hb1 hb2).2 he
 have h2 := (hu.k n q k1 k2 hq hk1 hk2).2 he
 have h3 := ps_mono (hw.ou hq) hc2 hc1 (by omega)
 omega
theorem thr_up {f g : FS} (h : f.t q.c ≤ g.t q.c) (hl : t.losses.getD q.at_ 0 ≤ s.losses.getD q.at_ 0) (hc : s.cap q ≤ t.cap q) : thrS s f q ≤ thrS t g q := by
 unfold thrS lostS
 omega
theorem rest_up {f g : FS} (h : f.t q.c ≤ g.t q.c) (hl : t.losses.getD q.at_ 0 ≤ s.losses.getD q.at_ 0) (hc : t.cap q ≤ s.cap q) : f.t q.c - lostS s f q - thrS s f q ≤ g.t q.c - lostS t g q - thrS t g q := by
 unfold thrS lostS
 omega
end
theorem startT_up {ws : Wk} {e : Nat → Nat} {s t : Wa} (hs : WaOk ws s) (ht : WaOk ws t) (hu : UpS ws e s t) {c : Nat} (hc : 0 < e c) : startT ws s c ≤ startT ws t c := by
 unfold startT
 cases hx : (headsN ws).idxOf? c with
 | none => exact Int.le_refl _
 | some k =>
  have hk : (headsN ws)[k]? = some c := by
   rw [List.idxOf?_eq_some_iff] at hx
   obtain ⟨h1, h2, -⟩ := hx
   rw [List.getElem?_eq_getElem h1, h2]
  have hkl := (List.getElem?_eq_some_iff.1 hk).1
  have h1 : s.river[k]? = some (s.river.getD k 0) := by
   rw [List.getD_eq_getElem?_getD, List.getElem?_eq_getElem (by rw [hs.r]; exact hkl)]
   rfl
  have h2 : t.river[k]? = some (t.river.getD k 0) := by
   rw [List.getD_eq_getElem?_getD, List.getElem?_eq_getElem (by rw [ht.r]; exact hkl)]
   rfl
  exact hu.r k c _ _ hk h1 h2 hc
theorem flow_up {ws : Wk} (hw : WOk ws) {s t : Wa} (hs : WaOk ws s) (ht : WaOk ws t) {i : Nat} {p : Pl} (hp : (allP ws)[i]? = some p) {e : Nat → Nat} (he : e = endE ws p.o.id) (hu : UpS ws e s t) :
  ∀ n, n ≤ total ws → (∀ c, 0 < e c → n < pre ws c + e c → (flowTo ws s n).t c ≤ (flowTo ws t n).t c) ∧ ∀ (j : Nat) (q : Pl), j < n → (allP ws)[j]? = some q → q.n + 1 = e q.c → (flowTo ws s n).thr.getD j 0 ≤ (flowTo ws t n).thr.getD j 0
 | 0, _ => ⟨fun c hc _ => startT_up hs ht hu hc, fun j q h => by omega⟩
 | n + 1, hn => by
  obtain ⟨ih1, ih2⟩ := flow_up hw hs ht hp he hu n (by omega)
  obtain ⟨q, hq⟩ := at_total (ws := ws) (n := n) (by omega)
  obtain ⟨-, os, h1, h2, h3⟩ := allP_inv hq
  have hB : q.n + 1 = e q.c → thrS s (flowTo ws s n) q ≤ thrS t (flowTo ws t n) q := fun hx =>
   thr_up (ih1 q.c (by omega) (by omega)) (hu.loss hw hs ht hq (by omega)) (hu.cap_up hw hs ht hq hx)
  rw [flowTo_succ s hq, flowTo_succ t hq]
  refine ⟨fun c hc hlt => ?_, fun j r hj hr hx => ?_⟩
  ·show (if (c : Int) = q.o.into then thrS s (flowTo ws s n) q else if c = q.c then (flowTo ws s n).t q.c - lostS s (flowTo ws s n) q - thrS s (flowTo ws s n) q else (flowTo ws s n).t c) ≤ (if (c : Int) = q.o.into then thrS t (flowTo ws t n) q else if c = q.c then (flowTo ws t n).t q.c - lostS t (flowTo ws t n) q - thrS t (flowTo ws t n) q else (flowTo ws t n).t c)
   by_cases hi : (c : Int) = q.o.into
   ·rw [if_pos hi, if_pos hi]
    subst he
    exact hB (endE_into hw hp hq hc hi.symm).symm
   ·rw [if_neg hi, if_neg hi]
    by_cases hcq : c = q.c
    ·subst hcq
     rw [if_pos rfl, if_pos rfl]
     exact rest_up (ih1 q.c (by omega) (by omega)) (hu.loss hw hs ht hq (by omega)) (hu.cap_down hw hs ht hq (by omega))
    ·rw [if_neg hcq, if_neg hcq]
     exact ih1 c hc (by omega)
  ·show ((flowTo ws s n).thr ++ [thrS s (flowTo ws s n) q]).getD j 0 ≤ ((flowTo ws t n).thr ++ [thrS t (flowTo ws t n) q]).getD j 0
   have hl1 := thr_len ws s n (by omega)
   have hl2 := thr_len ws t n (by omega)
   rw [List.getD_eq_getElem?_getD, List.getD_eq_getElem?_getD]
   rcases Nat.lt_or_ge j n with h | h
   ·rw [List.getElem?_append_left (by omega), List.getElem?_append_left (by omega)]
    have := ih2 j r h hr hx
    rwa [List.getD_eq_getElem?_getD, List.getD_eq_getElem?_getD] at this
   ·obtain rfl : j = n := by omega
    rw [hq] at hr
    cases hr
    rw [List.getElem?_append_right (by omega), List.getElem?_append_right (by omega), hl1, hl2, Nat.sub_self]
    exact hB hx
/-- More by its signs gives an outlet no less. -/
theorem flow_mono {ws : Wk} (hw : WOk ws) {s t : Wa} (hs : WaOk ws s) (ht : WaOk ws t) {i : Nat} {p : Pl} (hp : (allP ws)[i]? = some p) (hu : UpS ws (endE ws p.o.id) s t) : (flowF ws s).thr.getD i 0 ≤ (flowF ws t).thr.getD i 0 :=
 (flow_up hw hs ht hp rfl hu (total ws) (Nat.le_refl _)).2 i p (lt_total hp) hp (endE_at hw hp (pathOf_is hw (lt_total hp)).self_mem hp).symm
end Go.Proofs.Ytkoacclbempmdaa
