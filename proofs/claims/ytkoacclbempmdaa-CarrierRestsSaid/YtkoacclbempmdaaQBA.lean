/- A carrier, an outlet, in memory; a number behind a list. -/
import Derived.Test.YtkoacclbempmdaaGH
import Derived.Test.YtkoacclbempmdaaGW
import Derived.Maps.AppendAt
import Derived.Test.YtkoacclbempmdaaGZF
import Derived.Test.YtkoacclbempmdaaGI
import Derived.Test.YtkoacclbempmdaaGS
namespace Go.Proofs.Ytkoacclbempmdaa
open Go.RowKit
theorem rk_at {B n c k : Nat} {A : Option Addr} {ws : Wk} {os : List Ou} {w : World} (h : RK B (.slice A n c) ws w) (hos : ws[k]? = some os) : ∃ b o, A = some ⟨b, o, none⟩ ∧ b < B ∧ ∃ u, w.cell? ⟨b, o + k, none⟩ = some u ∧ ∃ A1 c1, u = .slice A1 os.length c1 ∧ RO B u os w := by
 obtain ⟨A0, c0, e0, -, hx⟩ := h
 have hk := (List.getElem?_eq_some_iff.1 hos).1
 simp only [Value.slice.injEq] at e0
 obtain ⟨rfl, -, -⟩ := e0
 obtain ⟨b, o, e1, e2, e3⟩ := hx (by omega)
 obtain ⟨u, hu, hr⟩ := e3 k os hos
 obtain ⟨a, cc, e⟩ := hr.slice
 exact ⟨b, o, e1, e2, u, hu, a, cc, e, hr⟩
theorem ro_at {B n c j : Nat} {A : Option Addr} {os : List Ou} {p : Ou} {w : World} (h : RO B (.slice A n c) os w) (hp : os[j]? = some p) : ∃ b o, A = some ⟨b, o, none⟩ ∧ b < B ∧ OuAt B b (o + j * 7) p w := by
 obtain ⟨A0, c0, e0, -, hx⟩ := h
 have hj := (List.getElem?_eq_some_iff.1 hp).1
 simp only [Value.slice.injEq] at e0
 obtain ⟨rfl, -, -⟩ := e0
 obtain ⟨b, o, e1, e2, e3⟩ := hx (by omega)
 exact ⟨b, o, e1, e2, e3 j p hp⟩
theorem own_snoc {W : World} {base n : Nat} {v : Value} {l : List Int} {y : Int} (h : W.ownsRow base 3 1 v (n + 1) (l.flatMap encI ++ [.int .i64 y])) (hn : l.length = n) : OwnG encI 1 3 base v (l ++ [y]) W := by
 unfold OwnG
 rw [List.flatMap_append, List.length_append, hn]
 exact h
theorem new_set (W : World) (a : Addr) (v x : Value) (t : TypeId) (i : Nat) (u : Value) (hi : [x][i]? = some u) : ((W.setCell a v).alloc (.cells #[x] t)).cell? ((⟨W.heap.size, 0, none⟩ : Addr).add i) = some u := by
 have := one_news (W.setCell a v) x t i u hi
 rwa [show (W.setCell a v).heap.size = W.heap.size by simp] at this

end Go.Proofs.Ytkoacclbempmdaa

/- Contract of the specification's flow. -/
namespace Go.Proofs.Ytkoacclbempmdaa
open Go.RowKit

theorem GL.setO {g base : Nat} {us : List Value} {ls : List (List Int)} {W : World} (h : GL g base us ls W) {k : Nat} (hk : us.length ≤ k) (x : Value) : GL g base us ls (W.setCell ⟨g, k, none⟩ x) := by
 have gs : GrownL [g] W (W.setCell ⟨g, k, none⟩ x) := GrownL.set _ _ _ (by simp)
 refine ⟨fun j u hj => ?_, fun j => (World.frozen?_setCell _ _ _ _).trans (h.f j), fun j u l hu hl => (h.o j u l hu hl).grown gs (fun b hb hm => by have := (h.own hu hb).1; have := h.gb; simp at hm; omega), h.d, h.gb, by simp; exact h.gl, h.len⟩
 have := (List.getElem?_eq_some_iff.1 hj).1
 exact (World.cell?_setCell_other _ ⟨g, k, none⟩ ⟨g, j, none⟩ _ (by simp <;> omega)).trans (h.c j u hj)
/-- What the specification's flow keeps besides its lists. -/
structure FlK (w : World) (v a b c d : Value) (W : World) : Prop where
 wk : W.cell? ⟨w.heap.size, 0, none⟩ = some v
 r : W.cell? ⟨w.heap.size + 1, 0, none⟩ = some a
 b : W.cell? ⟨w.heap.size + 1, 1, none⟩ = some b
 k : W.cell? ⟨w.heap.size + 1, 2, none⟩ = some c
 l : W.cell? ⟨w.heap.size + 1, 3, none⟩ = some d
 z0 : W.cell? ⟨w.heap.size + 1 + 1, 0, none⟩ = some (.slice none 0 0)
 z1 : W.cell? ⟨w.heap.size + 1 + 1, 1, none⟩ = some (.slice none 0 0)
 z2 : W.cell? ⟨w.heap.size + 1 + 1, 2, none⟩ = some (.int .i64 0)
 fz : ∀ i, W.frozen? ⟨w.heap.size + 1 + 1, i, none⟩ = false
 bel : Below w.heap.size w W
section
variable {w W W' : World} {v a b c d : Value}
theorem FlK.siz (h : FlK w v a b c d W) : w.heap.size + 3 ≤ W.heap.size := World.block_lt_of_cell? _ _ h.z0
theorem FlK.grown {bs : List Nat} (h : FlK w v a b c d W) (hg : GrownL bs W W') (hn : ∀ k ∈ bs, w.heap.size + 3 ≤ k) : FlK w v a b c d W' := by
 have n0 : ∀ k, k < w.heap.size + 3 → k ∉ bs := fun k hk hm => by have := hn k hm; omega
 have n1 := n0 w.heap.size (by omega)
 have n2 := n0 (w.heap.size + 1) (by omega)
 have n3 := n0 (w.heap.size + 1 + 1) (by omega)
 exact ⟨hg.cell h.wk n1, hg.cell h.r n2, hg.cell h.b n2, hg.cell h.k n2, hg.cell h.l n2, hg.cell h.z0 n3, hg.cell h.z1 n3, hg.cell h.z2 n3,
  fun i => (World.frozen?_of_block (a := ⟨w.heap.size + 1 + 1, i, none⟩) (hg.block (w.heap.size + 1 + 1) (World.block_lt_of_cell? _ _ h.z0) n3)).trans (h.fz i), h.bel.trans (hg.below (fun k hk => by have := hn k hk; omega) h.bel.size)⟩
theorem FlK.below (h : FlK w v a b c d W) (hb : Below W.heap.size W W') : FlK w v a b c d W' := h.grown (GrownL.of_below (bs := []) hb) (by simp)
end
/-- The result in the making: two lists of its own, and a number. -/
structure FlO (g base : Nat) (u1 u2 : Value) (l1 l2 : List Int) (n : Int) (W : World) : Prop where
 gl : GL g base [u1, u2] [l1, l2] W
 n : W.cell? ⟨g, 2, none⟩ = some (.int .i64 n)
section
variable {g base : Nat} {u1 u2 v' : Value} {l1 l2 : List Int} {n m x : Int} {W W' W4 : World}
theorem FlO.c1 (h : FlO g base u1 u2 l1 l2 n W) : W.cell? ⟨g, 0, none⟩ = some u1 := h.gl.c 0 u1 rfl
theorem FlO.c2 (h : FlO g base u1 u2 l1 l2 n W) : W.cell? ⟨g, 1, none⟩ = some u2 := h.gl.c 1 u2 rfl
theorem FlO.o1 (h : FlO g base u1 u2 l1 l2 n W) : OwnG encI 1 3 base u1 l1 W := h.gl.o 0 u1 l1 rfl rfl
theorem FlO.o2 (h : FlO g base u1 u2 l1 l2 n W) : OwnG encI 1 3 base u2 l2 W := h.gl.o 1 u2 l2 rfl rfl
theorem FlO.grown {bs : List Nat} (h : FlO g base u1 u2 l1 l2 n W) (hg : GrownL bs W W') (hn : g ∉ bs) (hr : ∀ k ∈ bs, k < base ∨ W.heap.size ≤ k) : FlO g base u1 u2 l1 l2 n W' := ⟨h.gl.grown hg hn hr, hg.cell h.n hn⟩
theorem FlO.below (h : FlO g base u1 u2 l1 l2 n W) (hb : Below W.heap.size W W') : FlO g base u1 u2 l1 l2 n W' := h.grown (GrownL.of_below (bs := []) hb) (by simp) (by simp)
theorem FlO.setn (h : FlO g base u1 u2 l1 l2 n W) (m : Int) : FlO g base u1 u2 l1 l2 m (W.setCell ⟨g, 2, none⟩ (.int .i64 m)) := ⟨h.gl.setO (by simp) _, World.cell?_setCell_same' _ _ _ (by rw [h.n]; rfl)⟩
theorem FlO.app1 (h : FlO g base u1 u2 l1 l2 n W) (hg : GrownL u1.ownBlock.toList W W4) (ho : OwnG encI 1 3 base v' (l1 ++ [x]) W4) (ha : v'.ownBlock = u1.ownBlock ∨ ∃ n, v'.ownBlock = some n ∧ W.heap.size ≤ n) : FlO g base v' u2 (l1 ++ [x]) l2 n (W4.setCell ⟨g, 0, none⟩ v') := by
 have hn : g ∉ u1.ownBlock.toList := fun hm => by have := (h.o1.lt g (by simpa using hm)).1; have := h.gl.gb; omega
 exact ⟨h.gl.app (k := 0) rfl rfl hg ho ha, (World.cell?_setCell_other _ ⟨g, 0, none⟩ ⟨g, 2, none⟩ _ (by simp)).trans (hg.cell h.n hn)⟩
theorem FlO.app2 (h : FlO g base u1 u2 l1 l2 n W) (hg : GrownL u2.ownBlock.toList W W4) (ho : OwnG encI 1 3 base v' (l2 ++ [x]) W4) (ha : v'.ownBlock = u2.ownBlock ∨ ∃ n, v'.ownBlock = some n ∧ W.heap.size ≤ n) : FlO g base u1 v' l1 (l2 ++ [x]) n (W4.setCell ⟨g, 1, none⟩ v') := by
 have hn : g ∉ u2.ownBlock.toList := fun hm => by have := (h.o2.lt g (by simpa using hm)).1; have := h.gl.gb; omega
 exact ⟨h.gl.app (k := 1) rfl rfl hg ho ha, (World.cell?_setCell_other _ ⟨g, 1, none⟩ ⟨g, 2, none⟩ _ (by simp)).trans (hg.cell h.n hn)⟩
end
def FlowR (ws : Wk) (s : Wa) (w : World) (e : Ending) (w' : World) : Prop := ∃ v1 v2, e = .returned (.agg #[v1, v2, .int .i64 (flowF ws s).lost]) ∧ OwnG encI 1 3 w.heap.size v1 (flowF ws s).thr w' ∧ OwnG encI 1 3 w.heap.size v2 (tailsL ws s) w' ∧ Below w.heap.size w w'
def tailsTo (ws : Wk) (s : Wa) (c : Nat) : List Int := (List.range c).map (flowF ws s).t
theorem tailsTo_succ (ws : Wk) (s : Wa) (c : Nat) : tailsTo ws s (c + 1) = tailsTo ws s c ++ [(flowF ws s).t c] := by
 unfold tailsTo
 rw [List.range_succ, List.map_append]
 rfl
/-- What a carrier has at its beginning. -/
theorem t_start {ws : Wk} (hw : WOk ws) (s : Wa) {c : Nat} {r : Int} (hr : FstIs (fun o : Ou => o.into) (outs ws) c r) : (r = -1 ∧ (flowTo ws s (pre ws c)).t c = startT ws s c) ∨ ∃ j : Nat, r = j ∧ j < pre ws c ∧ (flowTo ws s (pre ws c)).t c = (flowTo ws s (pre ws c)).thr.getD j 0 := by
 have h := t_before hw s hr (pre ws c) (Nat.le_refl _)
 have hr' := hr
 rcases hr with ⟨i, o, ho, he, -, rfl⟩ | ⟨-, rfl⟩
 ·right
  obtain ⟨q, hq⟩ := at_total (ws := ws) (n := i) (by have := (List.getElem?_eq_some_iff.1 ho).1; rw [outs_len] at this; exact this)
  have := (outs_get hq).1
  rw [ho] at this
  cases this
  have hlt := (hw.into_lt hq he).1
  obtain ⟨-, os, h1, h2, h3⟩ := allP_inv hq
  have h4 := pre_succ h1
  have h5 : pre ws (q.c + 1) ≤ pre ws c := pre_mono hlt
  have h6 := (List.getElem?_eq_some_iff.1 h2).1
  refine ⟨i, rfl, by omega, ?_⟩
  rw [h, if_pos (by omega)]
  simp
 ·left
  refine ⟨rfl, ?_⟩
  rw [h, if_neg (by omega)]

set_option maxHeartbeats 16000000 in
set_option maxRecDepth 1000000 in
theorem rflow_any (A : Option Addr) (c : Nat) (wv : Value) (ws : Wk) (s : Wa) (w : World) (h : RK w.heap.size (.slice A ws.length c) ws w) (hs : RWa w.heap.size wv s w) (hw : WOk ws) (ho : WaOk ws s) :
  Calls Try.prog 118 #[.agg #[.slice A ws.length c], wv] w (FlowR ws s w) := by
 obtain ⟨i0, hz0, hi1, hi2, hi3⟩ := info_parts infoInt
 obtain ⟨A1, c1, A2, c2, A3, c3, A4, c4, rfl⟩ := hs.form
 have ht : total ws ≤ 100000 := by have := hw.tot; omega
 have hln : ws.length ≤ 100000 := by have := hw.len; omega
 have C1 := Lib.hid fun W (hb : Below w.heap.size w W) => rheads_any A ws.length c ws W (h.up hb.size hb) ht hln
 have C2 := Lib.hid fun (k : Nat) (r : Int) (hr : FstIs (fun o : Ou => o.into) (outs ws) k r) W (hb : Below w.heap.size w W) => rfeeder_any A ws.length c ws k r W (h.up hb.size hb) ht hr
 have H := Lib.hid h
 have HS := Lib.hid hs
 have HW := Lib.hid hw
 have HO := Lib.hid ho
 obtain ⟨W0, hW0⟩ : ∃ W0, ((((w.alloc (.cells #[.slice A ws.length c] 24)).alloc (.cells #[.slice A1 s.river.length c1, .slice A2 s.boards.length c2, .slice A3 s.leaks.length c3, .slice A4 s.losses.length c4] 27)).alloc (.cells #[.slice none 0 0, .slice none 0 0, .int .i64 0] 171)).alloc (.cells #[.slice none 0 0, .slice none 0 0, .int .i64 0] 171)) = W0 := ⟨_, rfl⟩
 have K0 : Hid (FlK w (.slice A ws.length c) (.slice A1 s.river.length c1) (.slice A2 s.boards.length c2) (.slice A3 s.leaks.length c3) (.slice A4 s.losses.length c4) W0) := Lib.hid (by rw [← hW0]; exact ⟨by simp [go_sem], by simp [go_sem], by simp [go_sem], by simp [go_sem], by simp [go_sem], by simp [go_sem], by simp [go_sem], by simp [go_sem], fun i => by simp [go_sem], ((((Below.refl _ _).alloc (Nat.le_refl _) _).alloc (by simp) _).alloc (by simp; omega) _).alloc (by simp; omega) _⟩)
 have B0 : Hid ((∀ j, j < 2 → W0.cell? ⟨w.heap.size + 1 + 1 + 1, j, none⟩ = some (.slice none 0 0)) ∧ (∀ j, W0.frozen? ⟨w.heap.size + 1 + 1 + 1, j, none⟩ = false) ∧ W0.cell? ⟨w.heap.size + 1 + 1 + 1, 2, none⟩ = some (.int .i64 0) ∧ W0.heap.size = w.heap.size + 4) := Lib.hid (by
  rw [← hW0]
  refine ⟨fun j hj => ?_, fun j => by simp [go_sem], by simp [go_sem], by simp⟩
  match j, hj with
  | 0, _ => simp [go_sem]
  | 1, _ => simp [go_sem]
  | j + 2, hj => omega)
 have HW0 := Lib.hid hW0
 clear h hs hw ho ht hln hW0
 go_enter Try.func118, Try.ntmps118
 go_upto_region 2 with fail
 rw [HW0.out]
 have x0 := K0.out.wk
 go_wp2_with fail
 refine (C1.out _ K0.out.bel).mono ?_
 rintro e w1 ⟨hv, rfl, hhv, b1⟩
 have K1 := Lib.hid (K0.out.below b1)
 have hhl := headsL_len HW.out
 have HB : Hid (∀ b, hv.ownBlock = some b → w.heap.size + 4 ≤ b ∧ b < w1.heap.size) := Lib.hid (fun b hb => by have := hhv.lt b hb; have := B0.out.2.2.2; omega)
 have H1 := Lib.hid (hhv.rr EI (by show (headsL ws).length ≤ 1000000000000000; omega))
 obtain ⟨Ah, ch, rfl, -⟩ := hhv.form
 have hsz : w.heap.size + 4 ≤ w1.heap.size := by have := B0.out.2.2.2; have := b1.size; omega
 have HSZ := Lib.hid hsz
 have G0 : Hid (FlO (w.heap.size + 1 + 1 + 1) w1.heap.size (.slice none 0 0) (.slice none 0 0) [] [] 0 w1) := Lib.hid (by
  have hc := fun (p : Addr) (h : p.block < W0.heap.size) => b1.cell (p := p) h
  have hl : w.heap.size + 1 + 1 + 1 < W0.heap.size := by have := B0.out.2.2.2; omega
  exact ⟨GL.nils (by omega) (by omega) 2 (fun k hk => (hc ⟨_, k, none⟩ hl).trans (B0.out.1 k hk)) (fun k => (b1.frozen (p := ⟨w.heap.size + 1 + 1 + 1, k, none⟩) hl).trans (B0.out.2.1 k)), (hc ⟨_, 2, none⟩ hl).trans B0.out.2.2.1⟩)
 obtain ⟨nh, hnh⟩ : ∃ nh, (headsL ws).length = nh := ⟨_, rfl⟩
 have HNH := Lib.hid hnh
 rw [hnh] at H1 HB hhl ⊢
 have hh0 : (nh : Int) ≤ 16 := by omega
 have h16 := HW.out.len
 clear hhv b1 hnh x0 hsz
 go_wp2_with fail
 go_loopw [7, 8] (fun n i wr => ∃ (k : Nat) (u1 u2 : Value), i = .int .i64 k ∧ k ≤ ws.length ∧ n = .int .i64 (pre ws k) ∧ FlO (w.heap.size + 1 + 1 + 1) w1.heap.size u1 u2 (flowTo ws s (pre ws k)).thr (tailsTo ws s k) (flowTo ws s (pre ws k)).lost wr ∧ FlK w (.slice A ws.length c) (.slice A1 s.river.length c1) (.slice A2 s.boards.length c2) (.slice A3 s.leaks.length c3) (.slice A4 s.losses.length c4) wr ∧ GrownL [w.heap.size + 1 + 1 + 1] w1 wr) (fun _ i _ => ws.length - (intOf i).toNat)
 case atStart => exact ⟨0, _, _, rfl, by omega, by rw [pre_zero]; rfl, by rw [pre_zero]; exact G0.out, K1.out, GrownL.refl _ _⟩
 case round =>
  obtain ⟨k, u1, u2, rfl, hk, rfl, hG, hK, hgr⟩ := hrel
  have HG := Lib.hid hG
  have KK := Lib.hid hK
  have HGR := Lib.hid hgr
  have x0 := hK.wk
  clear hG hK hgr G0 K1
  by_cases hkl : k < ws.length
  ·have hk0 : (k : Int) < (ws.length : Int) := by omega
   have HSN := Lib.hid (startN_zero ws s)
   go_wp2_with fail
   go_loopw [9, 10] (fun f i wx => ∃ j : Nat, i = .int .i64 j ∧ j ≤ nh ∧ f = .int .i64 (startN ws s j k) ∧ wx = wr) (fun _ i _ => nh - (intOf i).toNat)
   case atStart => exact ⟨0, rfl, by omega, by rw [HSN.out], rfl⟩
   case round =>
    obtain ⟨j, rfl, hj, rfl, rfl⟩ := hrel
    by_cases hjl : j < nh
    ·have hj0 : (j : Int) < (nh : Int) := by omega
     obtain ⟨x, hx⟩ : ∃ x, (headsN ws)[j]? = some x := ⟨_, List.getElem?_eq_getElem (by have := HNH.out; simp [headsL] at this; omega)⟩
     have hxl : (headsL ws)[j]? = some (x : Int) := by unfold headsL; rw [List.getElem?_map, hx]; rfl
     obtain ⟨y, hy⟩ : ∃ y, s.river[j]? = some y := ⟨_, List.getElem?_eq_getElem (by have := HO.out.r; have := HNH.out; simp [headsL] at this; omega)⟩
     obtain ⟨bh, oh, rfl, hbh, q1⟩ := H1.out.int hxl
     have hjr : (j : Int) < (s.river.length : Int) := by have := (List.getElem?_eq_some_iff.1 hy).1; omega
     have y1 : wr.cell? ⟨bh, oh + j, none⟩ = some (.int .i64 x) := HGR.out.cell q1 (fun hm => by have := (HB.out bh rfl).1; simp at hm; omega)
     obtain ⟨br, or, rfl, hbr, q2⟩ := (HS.out.parts.1.up KK.out.bel.size KK.out.bel).int hy
     have x1 := KK.out.r
     have HST := Lib.hid (startN_succ s hx hy k)
     clear q1 hx hxl hy
     by_cases hxk : x = k
     ·have hbq : ((x : Int) == (k : Int)) = true := by rw [beq_iff_eq]; omega
      go_wp2_with fail
      go_roundw
      case rel => exact ⟨j + 1, by go_num, by omega, by rw [HST.out, if_pos hxk.symm], trivial⟩
      case measure => show nh - ((j : Int) + 1).toNat < nh - (j : Int).toNat; omega
     ·have hbq : ((x : Int) == (k : Int)) = false := by rw [beq_eq_false_iff_ne]; omega
      go_wp2_with fail
      go_roundw
      case rel => exact ⟨j + 1, by go_num, by omega, by rw [HST.out, if_neg (fun e => hxk e.symm)], trivial⟩
      case measure => show nh - ((j : Int) + 1).toNat < nh - (j : Int).toNat; omega
    ·have hj0 : (nh : Int) ≤ (j : Int) := by omega
     obtain rfl : j = nh := by omega
     rw [startN_all ws s (by have := HNH.out; simp [headsL] at this; omega)]
     obtain ⟨r, hr⟩ := FstIs.exists_ (fun o : Ou => o.into) (outs ws) (k : Int)
     have HR := Lib.hid hr
     have HTS := Lib.hid (t_start HW.out s hr)
     clear hr
     go_wp2_with fail
     refine (C2.out k r HR.out _ KK.out.bel).mono ?_
     rintro e w2 ⟨rfl, b2⟩
     have KK2 := Lib.hid (KK.out.below b2)
     have HG2 := Lib.hid (HG.out.below b2)
     have HGR2 : Hid (GrownL [w.heap.size + 1 + 1 + 1] w1 w2) := Lib.hid (HGR.out.trans (GrownL.of_below b2))
     clear b2
     have hrj : (r = -1) ∨ 0 ≤ r := by rcases HTS.out with ⟨h, -⟩ | ⟨j, h, -⟩ <;> omega
     go_upto_if 46 with fail
     go_cut [9] (fun f wx => f = .int .i64 ((flowTo ws s (pre ws k)).t k) ∧ wx = w2)
     case first =>
      rcases HTS.out with ⟨rfl, ht0⟩ | ⟨j, rfl, hj1, ht0⟩
      ·have HT0 := Lib.hid ht0
       clear ht0
       go_wp2_with fail
       go_meet
       case rel => exact ⟨by rw [HT0.out], rfl⟩
      ·obtain ⟨U1, d1, rfl, -⟩ := HG2.out.o1.form
       have hl1 := thr_len ws s (pre ws k) (pre_le ws k)
       obtain ⟨y, hy⟩ : ∃ y, (flowTo ws s (pre ws k)).thr[j]? = some y := ⟨_, List.getElem?_eq_getElem (by omega)⟩
       have R1 := Lib.hid (HG2.out.o1.rr EI (by rw [hl1]; have := pre_le ws k; have := HW.out.tot; show pre ws k ≤ 1000000000000000; omega))
       rw [hl1] at HG2 R1
       obtain ⟨b, o, rfl, hb, q1⟩ := R1.out.int hy
       have y0 := HG2.out.c1
       have HT0 : Hid ((flowTo ws s (pre ws k)).t k = y) := Lib.hid (by rw [ht0, List.getD_eq_getElem?_getD, hy]; rfl)
       have hj0 : (j : Int) < (pre ws k : Int) := by omega
       have hjn : (0 : Int) ≤ (j : Int) := by omega
       obtain ⟨pk, hpk⟩ : ∃ pk, pre ws k = pk := ⟨_, rfl⟩
       have HPK := Lib.hid hpk
       rw [hpk] at y0 hj0
       clear ht0 hy hl1 hpk
       go_wp2_with fail
       go_meet
       case rel => exact ⟨by rw [HT0.out], rfl⟩
     case rest =>
      obtain ⟨rfl, rfl⟩ := hcut
      obtain ⟨os, hos⟩ : ∃ os, ws[k]? = some os := ⟨_, List.getElem?_eq_getElem hkl⟩
      have HOS := Lib.hid hos
      have x0 := KK2.out.wk
      clear hos KK HG HGR HTS
      go_wp2_with fail
      go_loopw [7, 9, 12] (fun n f i wx => ∃ (j : Nat) (u1 : Value), i = .int .i64 j ∧ j ≤ os.length ∧ n = .int .i64 ((pre ws k + j : Nat) : Int) ∧ f = .int .i64 ((flowTo ws s (pre ws k + j)).t k) ∧ FlO (w.heap.size + 1 + 1 + 1) w1.heap.size u1 u2 (flowTo ws s (pre ws k + j)).thr (tailsTo ws s k) (flowTo ws s (pre ws k + j)).lost wx ∧ FlK w (.slice A ws.length c) (.slice A1 s.river.length c1) (.slice A2 s.boards.length c2) (.slice A3 s.leaks.length c3) (.slice A4 s.losses.length c4) wx ∧ GrownL [w.heap.size + 1 + 1 + 1] w1 wx) (fun _ _ i _ => os.length - (intOf i).toNat)
      case atStart => exact ⟨0, _, rfl, by omega, rfl, rfl, HG2.out, KK2.out, HGR2.out⟩
      case round =>
       obtain ⟨j, u1, rfl, hj, rfl, rfl, hG, hK, hgr⟩ := hrel
       have HG := Lib.hid hG
       have KK := Lib.hid hK
       have HGR := Lib.hid hgr
       have x0 := hK.wk
       have x1 := hK.r
       have x2 := hK.b
       have x3 := hK.k
       have x4 := hK.l
       clear hG hK hgr HG2 KK2 HGR2
       obtain ⟨b, o, hA, hbB, u, hu, A1_, c1_, hu2, hou⟩ := rk_at H.out HOS.out
       subst hA hu2
       replace hu := (KK.out.bel.cell (p := ⟨b, o + k, none⟩) hbB).trans hu
       by_cases hjl : j < os.length
       ·have hj0 : (j : Int) < (os.length : Int) := by omega
        obtain ⟨p, hp⟩ : ∃ p, os[j]? = some p := ⟨_, List.getElem?_eq_getElem hjl⟩
        obtain ⟨b1, o1, hA1, hb1, hc1⟩ := ro_at hou hp
        subst hA1
        have q0 := (KK.out.bel.cell (p := ⟨b1, _, none⟩) hb1).trans hc1.id
        have q1 := (KK.out.bel.cell (p := ⟨b1, _, none⟩) hb1).trans hc1.into
        have q2 := (KK.out.bel.cell (p := ⟨b1, _, none⟩) hb1).trans hc1.pv
        have q3 := (KK.out.bel.cell (p := ⟨b1, _, none⟩) hb1).trans hc1.k0
        have q4 := (KK.out.bel.cell (p := ⟨b1, _, none⟩) hb1).trans hc1.k1
        have q5 := (KK.out.bel.cell (p := ⟨b1, _, none⟩) hb1).trans hc1.s0
        have q6 := (KK.out.bel.cell (p := ⟨b1, _, none⟩) hb1).trans hc1.s1
        have hps := hc1.ps
        have hpl := allP_get HOS.out hp
        have hnl := pre_lt HOS.out hjl
        have HPL := Lib.hid hpl
        have HS1 := Lib.hid (flowTo_succ s hpl)
        clear hp hc1
        obtain ⟨n, hn⟩ : ∃ n, pre ws k + j = n := ⟨_, rfl⟩
        have HN := Lib.hid hn
        rw [hn] at hpl hnl HPL HG HS1 ⊢
        obtain ⟨bd, lk, ls, cp, hbd, hlk, hls, hcp, hbl, cp0, cp1, lk0, lk1, ls0, ls1, hcap, hlos⟩ := HO.out.at_ HW.out hpl
        have hfb := (FB.flow HO.out HW.out n (by omega))
        have ht0 := hfb.t k
        have hl0 := hfb.l0
        have hl1 := hfb.l1
        have hthl := thr_len ws s n (by omega)
        have h60 := HW.out.tot
        have hl1' : (flowTo ws s n).lost ≤ 100000000 := by rw [hthl] at hl1; omega
        obtain ⟨F, hF⟩ : ∃ F, flowTo ws s n = F := ⟨_, rfl⟩
        have HF := Lib.hid hF
        rw [hF] at ht0 hl0 hl1' hthl HG HS1 ⊢
        obtain ⟨T, hT⟩ : ∃ T, F.t k = T := ⟨_, rfl⟩
        have HTT := Lib.hid hT
        rw [hT] at ht0 ⊢
        clear hF hT hl1 hfb hn hpl
        obtain ⟨br, or, rfl, hbr, y1⟩ := HS.out.parts.2.1.int hbd
        obtain ⟨bk, ok, rfl, hbk, y2⟩ := HS.out.parts.2.2.1.int hlk
        obtain ⟨bl, ol, rfl, hbll, y3⟩ := HS.out.parts.2.2.2.int hls
        have hn1 : (n : Int) < (s.boards.length : Int) := by have := HO.out.b; omega
        have hn2 : (n : Int) < (s.leaks.length : Int) := by have := HO.out.k; omega
        have hn3 : (n : Int) < (s.losses.length : Int) := by have := HO.out.l; omega
        have hjm : (j : Int) ≤ 60 := by have := HN.out; omega
        have hnm : (n : Int) ≤ 60 := by omega
        have hbl0 : (bd : Int) < (p.ps.length : Int) := by have h : bd < p.ps.length := hbl; omega
        have hpp : ∃ bp op, p.pa = some ⟨bp, op, none⟩ ∧ bp < w.heap.size ∧ w.cell? ⟨bp, op + bd, none⟩ = some (.int .i64 cp) := by
         obtain ⟨A', c', e, -, hc⟩ := hps
         simp only [Value.slice.injEq] at e
         obtain ⟨bp, op, e1, e2, e3⟩ := hc (by omega)
         exact ⟨bp, op, e.1.trans e1, e2, e3 bd cp hcp⟩
        obtain ⟨bp, op, hpa, hbp, y4⟩ := hpp
        have HPA := Lib.hid hpa
        have HY := Lib.hid (fun W (hb : Below w.heap.size w W) => And.intro ((hb.cell (p := ⟨br, or + n, none⟩) hbr).trans y1) (And.intro ((hb.cell (p := ⟨bk, ok + n, none⟩) hbk).trans y2) (And.intro ((hb.cell (p := ⟨bl, ol + n, none⟩) hbll).trans y3) ((hb.cell (p := ⟨bp, op + bd, none⟩) hbp).trans y4))))
        clear hps hpa hbp hbd hlk hls hcp hbr hbk hbll hou
        go_upto_region 20 with fail
        obtain ⟨WA, hWA⟩ : ∃ WA, wr.alloc (.cells #[.int .i64 p.id, .int .i64 p.into, .slice p.pa p.ps.length p.pc, .int .i64 p.k0, .int .i64 p.k1, .int .i64 p.s0, .int .i64 p.s1] 42) = WA := ⟨_, rfl⟩
        have bA : Below wr.heap.size wr WA := by rw [← hWA]; exact (Below.refl _ _).alloc (Nat.le_refl _) _
        have a2 : WA.cell? ⟨wr.heap.size, 2, none⟩ = some (.slice (some ⟨bp, op, none⟩) p.ps.length p.pc) := by rw [← hWA, ← HPA.out]; simp [go_sem]
        rw [hWA]
        replace HG := Lib.hid (HG.out.below bA)
        replace KK := Lib.hid (KK.out.below bA)
        have HWR : Hid (w.heap.size + 4 ≤ wr.heap.size) := Lib.hid (Nat.le_trans HSZ.out HGR.out.size)
        replace HGR : Hid (GrownL [w.heap.size + 1 + 1 + 1] w1 WA) := Lib.hid (HGR.out.trans (GrownL.of_below bA))
        clear x0 x1 x2 x3 x4 q0 q1 q2 q3 q4 q5 q6 y1 y2 y3 y4 hu hWA bA
        obtain ⟨z1, z2, z3, z4⟩ := HY.out _ KK.out.bel
        have x0 := KK.out.wk
        have x1 := KK.out.r
        have x2 := KK.out.b
        have x3 := KK.out.k
        have x4 := KK.out.l
        obtain ⟨L, hL⟩ : ∃ L, min T ls = L := ⟨_, rfl⟩
        have HLL := Lib.hid hL
        go_cut [14] (fun x wx => x = .int .i64 L ∧ wx = WA)
        case first =>
         by_cases h : T ≤ ls
         ·obtain rfl : L = T := by omega
          go_wp2_with fail
          go_meet
          case rel => exact ⟨rfl, rfl⟩
         ·obtain rfl : L = ls := by omega
          go_wp2_with fail
          go_meet
          case rel => exact ⟨rfl, rfl⟩
        case rest =>
         obtain ⟨rfl, hwx⟩ := hcut
         rw [hwx]
         clear hwx
         have hL0 : 0 ≤ L := by omega
         have hL1 : L ≤ 1048576 := by omega
         have hL2 : L ≤ T := by omega
         have y2 := HG.out.n
         have y2f := HG.out.gl.f 2
         clear hL
         have w1' : IntKind.i64.wrap (T - L) = T - L := IntWalk.i64_in _ (by omega)
         have w2' : IntKind.i64.wrap (F.lost + L) = F.lost + L := IntWalk.i64_in _ (by omega)
         go_upto_region 23 with fail
         obtain ⟨X, hX⟩ : ∃ X, WA.setCell ⟨w.heap.size + 1 + 1 + 1, 2, none⟩ (.int .i64 (F.lost + L)) = X := ⟨_, rfl⟩
         have gX : GrownL [w.heap.size + 1 + 1 + 1] WA X := by rw [← hX]; exact GrownL.set _ _ _ (by simp)
         replace HG : Hid (FlO (w.heap.size + 1 + 1 + 1) w1.heap.size u1 u2 F.thr (tailsTo ws s k) (F.lost + L) X) := Lib.hid (by rw [← hX]; exact HG.out.setn _)
         replace KK := Lib.hid (KK.out.grown gX (by simp))
         have a2' := gX.cell a2 (by have := HWR.out; simp; omega)
         rw [hX]
         clear a2 x0 x1 x2 x3 x4 y2 y2f z1 z2 z3 z4 hX
         have x1 := KK.out.r
         have x2 := KK.out.b
         have x3 := KK.out.k
         obtain ⟨z1, z2, z3, z4⟩ := HY.out _ KK.out.bel
         replace HGR : Hid (GrownL [w.heap.size + 1 + 1 + 1] w1 X) := Lib.hid (HGR.out.trans gX)
         obtain ⟨M, hM⟩ : ∃ M, min (T - L) (cp + lk) = M := ⟨_, rfl⟩
         have HMM := Lib.hid hM
         have w3' : IntKind.i64.wrap (cp + lk) = cp + lk := IntWalk.i64_in _ (by omega)
         clear gX
         go_cut [15] (fun x wx => x = .int .i64 M ∧ ∃ nq, wx = X.drewN nq)
         case first =>
          by_cases h : T - L ≤ cp + lk
          ·obtain rfl : M = T - L := by omega
           go_quiet (fail)
           go_wp2_with fail
           go_meet
           case rel => exact ⟨rfl, _, rfl⟩
          ·obtain rfl : M = cp + lk := by omega
           go_quiet (fail)
           go_wp2_with fail
           go_meet
           case rel => exact ⟨rfl, _, rfl⟩
         case rest =>
          obtain ⟨rfl, nq, hwx⟩ := hcut
          rw [hwx]
          clear hwx
          obtain ⟨Y, hY⟩ : ∃ Y, X.drewN nq = Y := ⟨_, rfl⟩
          have bY : Below X.heap.size X Y := by rw [← hY]; exact below_drewN (Below.refl _ _) _
          replace HG := Lib.hid (HG.out.below bY)
          replace KK := Lib.hid (KK.out.below bY)
          replace HGR : Hid (GrownL [w.heap.size + 1 + 1 + 1] w1 Y) := Lib.hid (HGR.out.trans (GrownL.of_below bY))
          have hM0 : 0 ≤ M := by omega
          have hM1 : M ≤ T - L := by omega
          have w4' : IntKind.i64.wrap (T - L - M) = T - L - M := IntWalk.i64_in _ (by omega)
          rw [hY]
          obtain ⟨U1, d1, rfl, -⟩ := HG.out.o1.form
          have y0 := HG.out.c1
          have y0f := HG.out.gl.f 0
          rw [hthl] at HG y0
          have R1 : Hid (Y.ownsRow w1.heap.size 3 1 (.slice U1 n d1) n (F.thr.flatMap encI)) := Lib.hid (by have := HG.out.o1; unfold OwnG at this; rwa [hthl] at this)
          clear hM hY bY x1 x2 x3 z1 z2 z3 z4 a2'
          go_wp2_with (at_builtin; refine wpList_append_own_at _ rfl _ _ 25 rfl w1.heap.size 3 i0 (.int .i64 0) 1 8 Try.underlying25 hz0 hi1 hi2 hi3 rfl (by decide) _ n _ rfl (R1.out.alloc _) ⟨Y.heap.size, 0, none⟩ 1 1 [.int .i64 M] rfl rfl (fun i u hi => one_news Y (.int .i64 M) 3 i u hi) (fun u hu => one_one M u hu) ?c3 ?c4 ?c5 ?_)
          case c3 => unfold maxLen; omega
          case c4 => omega
          case c5 => have := HGR.out.size; first | (simp <;> omega) | omega
          intro v4 w4 hown4 hgrow4 _ hat4
          have O4 : Hid (OwnG encI 1 3 w1.heap.size v4 (F.thr ++ [M]) w4) := Lib.hid (own_snoc hown4 hthl)
          obtain ⟨A4_, c4_, rfl, -⟩ := O4.out.form
          obtain ⟨n4, hn4⟩ : ∃ n, (F.thr ++ [M]).length = n := ⟨_, rfl⟩
          rw [hn4] at O4 hat4 ⊢
          have gr : GrownL (Value.slice U1 n d1).ownBlock.toList Y w4 := (GrownL.of_below ((Below.refl Y.heap.size Y).alloc (Nat.le_refl _) (.cells #[.int .i64 M] 3))).trans (GrownL.of_row hgrow4)
          have hlt := fun b (hb : b ∈ (Value.slice U1 n d1).ownBlock.toList) => (HG.out.o1.lt b (by simpa using hb))
          have hn3_ : w.heap.size + 1 + 1 + 1 ∉ (Value.slice U1 n d1).ownBlock.toList := fun hm => by have := (hlt _ hm).1; have := HSZ.out; omega
          have y0' := gr.cell y0 hn3_
          have y0f' := (World.frozen?_of_block (a := ⟨w.heap.size + 1 + 1 + 1, 0, none⟩) (gr.block _ HG.out.gl.gl hn3_)).trans y0f
          obtain ⟨Z, hZ⟩ : ∃ Z, w4.setCell ⟨w.heap.size + 1 + 1 + 1, 0, none⟩ (.slice A4_ n4 c4_) = Z := ⟨_, rfl⟩
          have gs : GrownL [w.heap.size + 1 + 1 + 1] w4 Z := by rw [← hZ]; exact GrownL.set _ _ _ (by simp)
          have HG2 := Lib.hid (HG.out.app1 gr O4.out (hat4.imp (fun h => h) (fun h => ⟨_, h, by simp⟩)))
          rw [hZ] at HG2
          have KK2 := Lib.hid ((KK.out.grown gr (fun b hb => by have := (hlt b hb).1; have := HSZ.out; omega)).grown gs (by simp))
          have HGR2 : Hid (GrownL [w.heap.size + 1 + 1 + 1] w1 Z) := Lib.hid (HGR.out.newer ((gr.mono (bs' := (w.heap.size + 1 + 1 + 1) :: (Value.slice U1 n d1).ownBlock.toList) (by simp +contextual)).trans (gs.mono (by simp))) (fun b hb => (hlt b hb).1))
          have HZ := Lib.hid hZ
          clear hn4 gr hlt hn3_ gs hown4 hgrow4 hat4 y0 y0f hZ HG KK HGR
          go_wp2_with fail
          rw [HZ.out]
          have e1 : lostS s F ⟨n, k, j, p⟩ = L := by rw [← HLL.out, ← HTT.out]; unfold lostS; rw [hlos]
          have e2 : thrS s F ⟨n, k, j, p⟩ = M := by rw [← HMM.out, ← HTT.out]; unfold thrS; rw [e1, hcap]
          have e3 := t_step HW.out s HPL.out
          rw [HF.out, e1, e2] at e3
          have E3 : Hid ((flowTo ws s (n + 1)).t k = T - L - M) := Lib.hid (by rw [← HTT.out]; exact e3)
          have E1 : Hid ((flowTo ws s (n + 1)).thr = F.thr ++ [M] ∧ (flowTo ws s (n + 1)).lost = F.lost + L) := Lib.hid (by
           rw [HS1.out]
           exact ⟨by show F.thr ++ [thrS s F ⟨n, k, j, p⟩] = _; rw [e2], by show F.lost + lostS s F ⟨n, k, j, p⟩ = _; rw [e1]⟩)
          clear e1 e2 e3
          go_roundw
          case rel => exact ⟨j + 1, _, by go_num, by omega, by rw [← Nat.add_assoc, HN.out]; go_num, by rw [← Nat.add_assoc, HN.out, E3.out], by rw [← Nat.add_assoc, HN.out, E1.out.1, E1.out.2]; exact HG2.out, KK2.out, HGR2.out⟩
          case measure => show os.length - ((j : Int) + 1).toNat < os.length - (j : Int).toNat; omega
       ·have hj0 : (os.length : Int) ≤ (j : Int) := by omega
        obtain rfl : j = os.length := by omega
        have hps := pre_succ HOS.out
        rw [← hps] at HG ⊢
        have HTE : Hid ((flowTo ws s (pre ws (k + 1))).t k = (flowF ws s).t k) := Lib.hid (t_end HW.out s k).symm
        have hfb := ((FB.flow HO.out HW.out (pre ws (k + 1)) (pre_le ws _))).t k
        have HLT : Hid ((tailsTo ws s k).length = k) := Lib.hid (by unfold tailsTo; rw [List.length_map, List.length_range])
        have HTL := Lib.hid (tailsTo_succ ws s k)
        obtain ⟨T, hT⟩ : ∃ T, (flowTo ws s (pre ws (k + 1))).t k = T := ⟨_, rfl⟩
        rw [hT] at hfb ⊢
        have HTT : Hid ((flowF ws s).t k = T) := Lib.hid (HTE.out.symm.trans hT)
        obtain ⟨U2, d2, rfl, -⟩ := HG.out.o2.form
        have y0 := HG.out.c2
        have y0f := HG.out.gl.f 1
        have hbase := HGR.out.size
        rw [HLT.out] at HG y0
        have R1 : Hid (wr.ownsRow w1.heap.size 3 1 (.slice U2 k d2) k ((tailsTo ws s k).flatMap encI)) := Lib.hid (by have := HG.out.o2; unfold OwnG at this; rwa [HLT.out] at this)
        clear hou hps hT hjl
        go_wp2_with (at_builtin; refine wpList_append_own_at _ rfl _ _ 25 rfl w1.heap.size 3 i0 (.int .i64 0) 1 8 Try.underlying25 hz0 hi1 hi2 hi3 rfl (by decide) _ k _ rfl (R1.out.alloc _) ⟨wr.heap.size, 0, none⟩ 1 1 [.int .i64 T] rfl rfl (fun i u hi => one_news wr (.int .i64 T) 3 i u hi) (fun u hu => one_one T u hu) ?c3 ?c4 ?c5 ?_)
        case c3 => unfold maxLen; omega
        case c4 => omega
        case c5 => have := HGR.out.size; first | (simp <;> omega) | omega
        intro v4 w4 hown4 hgrow4 _ hat4
        have O4 : Hid (OwnG encI 1 3 w1.heap.size v4 (tailsTo ws s k ++ [T]) w4) := Lib.hid (own_snoc hown4 HLT.out)
        obtain ⟨A4_, c4_, rfl, -⟩ := O4.out.form
        obtain ⟨n4, hn4⟩ : ∃ n, (tailsTo ws s k ++ [T]).length = n := ⟨_, rfl⟩
        rw [hn4] at O4 hat4 ⊢
        have gr : GrownL (Value.slice U2 k d2).ownBlock.toList wr w4 := (GrownL.of_below ((Below.refl wr.heap.size wr).alloc (Nat.le_refl _) (.cells #[.int .i64 T] 3))).trans (GrownL.of_row hgrow4)
        have hlt := fun b (hb : b ∈ (Value.slice U2 k d2).ownBlock.toList) => (HG.out.o2.lt b (by simpa using hb))
        have hn3_ : w.heap.size + 1 + 1 + 1 ∉ (Value.slice U2 k d2).ownBlock.toList := fun hm => by have := (hlt _ hm).1; have := HSZ.out; omega
        have y0' := gr.cell y0 hn3_
        have y0f' := (World.frozen?_of_block (a := ⟨w.heap.size + 1 + 1 + 1, 1, none⟩) (gr.block _ HG.out.gl.gl hn3_)).trans y0f
        obtain ⟨Z, hZ⟩ : ∃ Z, w4.setCell ⟨w.heap.size + 1 + 1 + 1, 1, none⟩ (.slice A4_ n4 c4_) = Z := ⟨_, rfl⟩
        have gs : GrownL [w.heap.size + 1 + 1 + 1] w4 Z := by rw [← hZ]; exact GrownL.set _ _ _ (by simp)
        have HG2 := Lib.hid (HG.out.app2 gr O4.out (hat4.imp (fun h => h) (fun h => ⟨_, h, by simp⟩)))
        rw [hZ] at HG2
        have KK2 := Lib.hid ((KK.out.grown gr (fun b hb => by have := (hlt b hb).1; have := HSZ.out; omega)).grown gs (by simp))
        have HGR2 : Hid (GrownL [w.heap.size + 1 + 1 + 1] w1 Z) := Lib.hid (HGR.out.newer ((gr.mono (bs' := (w.heap.size + 1 + 1 + 1) :: (Value.slice U2 k d2).ownBlock.toList) (by simp +contextual)).trans (gs.mono (by simp))) (fun b hb => (hlt b hb).1))
        have HZ := Lib.hid hZ
        clear hn4 gr hlt hn3_ gs hown4 hgrow4 hat4 y0 y0f hZ HG KK HGR
        go_wp2_with fail
        rw [HZ.out]
        go_roundw
        case rel => exact ⟨k + 1, _, _, by go_num, by omega, rfl, by rw [HTL.out, HTT.out]; exact HG2.out, KK2.out, HGR2.out⟩
        case measure => show ws.length - ((k : Int) + 1).toNat < ws.length - (k : Int).toNat; omega
  ·have hk0 : (ws.length : Int) ≤ (k : Int) := by omega
   obtain rfl : k = ws.length := by omega
   rw [show pre ws ws.length = total ws from rfl] at HG
   obtain ⟨U1, d1, rfl, -⟩ := HG.out.o1.form
   obtain ⟨U2, d2, rfl, -⟩ := HG.out.o2.form
   obtain ⟨n1, hn1⟩ : ∃ n, (flowTo ws s (total ws)).thr.length = n := ⟨_, rfl⟩
   obtain ⟨n2, hn2⟩ : ∃ n, (tailsTo ws s ws.length).length = n := ⟨_, rfl⟩
   obtain ⟨L, hL⟩ : ∃ L, (flowTo ws s (total ws)).lost = L := ⟨_, rfl⟩
   rw [hn1, hn2, hL] at HG
   have HL := Lib.hid hL
   have x1 := HG.out.c1
   have x2 := HG.out.c2
   have x3 := HG.out.n
   have r0 := KK.out.z0
   have r1 := KK.out.z1
   have r2 := KK.out.z2
   have z0 := KK.out.fz 0
   have z1 := KK.out.fz 1
   have z2 := KK.out.fz 2
   clear hn1 hn2 hL
   go_wp2_with fail
   obtain ⟨X, hX⟩ : ∃ X, ((wr.setCell ⟨w.heap.size + 1 + 1, 0, none⟩ (.slice U1 n1 d1)).setCell ⟨w.heap.size + 1 + 1, 1, none⟩ (.slice U2 n2 d2)).setCell ⟨w.heap.size + 1 + 1, 2, none⟩ (.int .i64 L) = X := ⟨_, rfl⟩
   obtain ⟨p0, p1, p2, gx⟩ := set3 r0 r1 r2 (.slice U1 n1 d1) (.slice U2 n2 d2) (.int .i64 L)
   rw [hX] at p0 p1 p2 gx ⊢
   clear hX
   refine bodyPost_ret (v := .agg #[.slice U1 n1 d1, .slice U2 n2 d2, .int .i64 L]) (by simp [results, Try.results118, go_sem, p0, p1, p2]) rfl ?_
   have hs1 := HGR.out.size
   have hs0 := HSZ.out
   have ow : ∀ u l, OwnG encI 1 3 w1.heap.size u l wr → OwnG encI 1 3 w.heap.size u l X := fun u l h => (h.grown gx (fun b hb hm => by have := (h.lt b hb).1; simp at hm; omega)).low (by omega)
   exact ⟨_, _, by rw [← HL.out]; rfl, ow _ _ HG.out.o1, ow _ _ HG.out.o2, KK.out.bel.trans (gx.below (fun b hb => by simp at hb; omega) KK.out.bel.size)⟩
end Go.Proofs.Ytkoacclbempmdaa

/- Contract of the specification's signs. -/
namespace Go.Proofs.Ytkoacclbempmdaa
open Go.RowKit

theorem fst_of_head {ws : Wk} {c : Nat} (h : c ∈ headsN ws) : FstIs (fun o : Ou => o.into) (outs ws) (c : Int) (-1) := by
 refine .inr ⟨fun j o ho he => ?_, rfl⟩
 unfold headsN at h
 rw [List.mem_filter] at h
 have h2 := h.2
 unfold fedB at h2
 rw [Bool.not_eq_true', List.any_eq_false] at h2
 obtain ⟨p, hp⟩ := at_total (ws := ws) (n := j) (by have := (List.getElem?_eq_some_iff.1 ho).1; rw [outs_len] at this; exact this)
 have hop : p.o = o := by have := (outs_get hp).1; rw [ho] at this; cases this; rfl
 have := h2 p (List.mem_of_getElem? hp)
 rw [hop] at this
 simp [he] at this
/-- The sign of a head. -/
theorem sgH_at {ws : Wk} (hw : WOk ws) {i k0 : Nat} {p q0 : Pl} {r : List Nat} (hp : (allP ws)[i]? = some p) (hl : pathOf ws i = k0 :: r) (hq : (allP ws)[k0]? = some q0) {c : Nat} (hc : c ∈ headsN ws) : sgH (endE ws p.o.id) c = if (c : Int) = q0.c then 1 else 0 := by
 unfold sgH
 by_cases e : c = q0.c
 ·subst e
  rw [endE_at hw hp (by rw [hl]; simp) hq, if_pos rfl]
  omega
 ·rw [endE_none hw hp (fun k hk q hqk he => ?_), if_neg (by omega)]
  ·rfl
  ·have hf := fst_of_head hc
   rw [← he] at hf
   have := (pathOf_is hw (lt_total hp)).fed hw k hk q hqk hf
   rw [hl] at this
   simp at this
   subst this
   rw [hq] at hqk
   cases hqk
   exact e he.symm
/-- Whether an outlet lies ahead of one of some outlets, on the same carrier. -/
def ahB (ws : Wk) (L : List Nat) (q : Pl) : Bool := L.any fun k => match (allP ws)[k]? with
 | some q' => decide (q'.c = q.c) && decide (q.n < q'.n)
 | none => false
theorem ahB_snoc {ws : Wk} {L : List Nat} {j k : Nat} {q q' : Pl} (hj : L[j]? = some k) (hk : (allP ws)[k]? = some q') : ahB ws (L.take (j + 1)) q = (ahB ws (L.take j) q || (decide (q'.c = q.c) && decide (q.n < q'.n))) := by
 unfold ahB
 rw [take_snoc_get hj, List.any_append]
 simp [hk]
/-- The signs of an outlet and of its reach. -/
theorem sg_at {ws : Wk} (hw : WOk ws) {i m : Nat} {p q : Pl} (hp : (allP ws)[i]? = some p) (hq : (allP ws)[m]? = some q) :
  sgO (endE ws p.o.id) q = (if m ∈ pathOf ws i then 1 else if ahB ws (pathOf ws i) q then -1 else 0) ∧ sgR (endE ws p.o.id) q = (if m ∈ pathOf ws i then -1 else if ahB ws (pathOf ws i) q then -1 else 0) := by
 have hP := pathOf_is hw (lt_total hp)
 by_cases hm : m ∈ pathOf ws i
 ·have e := endE_at hw hp hm hq
  rw [if_pos hm, if_pos hm]
  unfold sgO sgR
  rw [e, if_pos (by omega), if_pos (by omega)]
  exact ⟨rfl, rfl⟩
 rw [if_neg hm, if_neg hm]
 by_cases hc : ∃ k ∈ pathOf ws i, ∃ q', (allP ws)[k]? = some q' ∧ q'.c = q.c
 ·obtain ⟨k, hk, q', hq', hcc⟩ := hc
  have e := endE_at hw hp hk hq'
  rw [hcc] at e
  have hne : q.n ≠ q'.n := fun hn => by
   have : m = k := by
    have h1 := (allP_inv hq).2
    have h2 := (allP_inv hq').2
    obtain ⟨_, _, _, h3⟩ := h1
    obtain ⟨_, _, _, h4⟩ := h2
    rw [hcc, ← hn] at h4
    omega
   exact hm (this ▸ hk)
  have ha : ahB ws (pathOf ws i) q = decide (q.n < q'.n) := by
   unfold ahB
   by_cases hlt : q.n < q'.n
   ·rw [decide_eq_true hlt, List.any_eq_true]
    exact ⟨k, hk, by simp [hq', hcc, hlt]⟩
   ·rw [decide_eq_false hlt, List.any_eq_false]
    intro k' hk'
    cases hx : (allP ws)[k']? with
    | none => simp
    | some q'' =>
     simp only [Bool.not_eq_true, Bool.and_eq_false_iff, decide_eq_false_iff_not]
     by_cases hc' : q''.c = q.c
     ·right
      have := hP.one hw k hk k' hk' q' q'' hq' hx (by omega)
      subst this
      rw [hq'] at hx
      cases hx
      exact hlt
     ·left; exact hc'
  rw [ha]
  unfold sgO sgR
  rw [e, if_neg (by omega)]
  by_cases hlt : q.n < q'.n
  ·rw [if_pos (by omega), decide_eq_true hlt]; exact ⟨rfl, rfl⟩
  ·rw [if_neg (by omega), decide_eq_false hlt]; exact ⟨rfl, rfl⟩
 ·have e := endE_none hw hp (c := q.c) (fun k hk q' hq' h => hc ⟨k, hk, q', hq', h⟩)
  have ha : ahB ws (pathOf ws i) q = false := by
   unfold ahB
   rw [List.any_eq_false]
   intro k' hk'
   cases hx : (allP ws)[k']? with
   | none => simp
   | some q'' =>
    have : ¬ q''.c = q.c := fun h => hc ⟨k', hk', q'', hx, h⟩
    simp [this]
  rw [ha]
  unfold sgO sgR
  rw [e, if_neg (by omega), if_neg (by omega)]
  exact ⟨rfl, rfl⟩

/-- What the specification's signs keep besides their lists. -/
structure SgW (w : World) (v : Value) (W : World) : Prop where
 wk : W.cell? ⟨w.heap.size, 0, none⟩ = some v
 r0 : W.cell? ⟨w.heap.size + 1, 0, none⟩ = some (.slice none 0 0)
 r1 : W.cell? ⟨w.heap.size + 1, 1, none⟩ = some (.slice none 0 0)
 r2 : W.cell? ⟨w.heap.size + 1, 2, none⟩ = some (.slice none 0 0)
 r3 : W.cell? ⟨w.heap.size + 1, 3, none⟩ = some (.int .i64 0)
 z : ∀ i, W.frozen? ⟨w.heap.size + 1, i, none⟩ = false
 e3 : W.cell? ⟨w.heap.size + 1 + 1, 3, none⟩ = some (.int .i64 0)
 bel : Below w.heap.size w W
section
variable {w W W' : World} {v : Value}
theorem SgW.siz (h : SgW w v W) : w.heap.size + 3 ≤ W.heap.size := World.block_lt_of_cell? _ _ h.e3
theorem SgW.grown {bs : List Nat} (h : SgW w v W) (hg : GrownL bs W W') (hn : ∀ k ∈ bs, w.heap.size + 3 ≤ k) : SgW w v W' := by
 have n0 : ∀ k, k < w.heap.size + 3 → k ∉ bs := fun k hk hm => by have := hn k hm; omega
 exact ⟨hg.cell h.wk (n0 _ (by show w.heap.size < _; omega)), hg.cell h.r0 (n0 _ (by show w.heap.size + 1 < _; omega)), hg.cell h.r1 (n0 _ (by show w.heap.size + 1 < _; omega)), hg.cell h.r2 (n0 _ (by show w.heap.size + 1 < _; omega)), hg.cell h.r3 (n0 _ (by show w.heap.size + 1 < _; omega)),
  fun i => (World.frozen?_of_block (a := ⟨w.heap.size + 1, i, none⟩) (hg.block (w.heap.size + 1) (World.block_lt_of_cell? _ _ h.r0) (n0 _ (by omega)))).trans (h.z i), hg.cell h.e3 (n0 _ (by show w.heap.size + 1 + 1 < _; omega)), h.bel.trans (hg.below (fun k hk => by have := hn k hk; omega) h.bel.size)⟩
theorem SgW.below (h : SgW w v W) (hb : Below W.heap.size W W') : SgW w v W' := h.grown (GrownL.of_below (bs := []) hb) (by simp)
theorem SgW.set (h : SgW w v W) {j : Nat} (hj : j < 3) (u : Value) : SgW w v (W.setCell ⟨w.heap.size + 1 + 1, j, none⟩ u) := by
 have gs : GrownL [w.heap.size + 2] W (W.setCell ⟨w.heap.size + 1 + 1, j, none⟩ u) := GrownL.set _ _ _ (by simp)
 have n0 : ∀ k, k < w.heap.size + 2 → k ∉ [w.heap.size + 2] := fun k hk hm => by simp at hm; omega
 exact ⟨gs.cell h.wk (n0 _ (by show w.heap.size < _; omega)), gs.cell h.r0 (n0 _ (by show w.heap.size + 1 < _; omega)), gs.cell h.r1 (n0 _ (by show w.heap.size + 1 < _; omega)), gs.cell h.r2 (n0 _ (by show w.heap.size + 1 < _; omega)), gs.cell h.r3 (n0 _ (by show w.heap.size + 1 < _; omega)),
  fun i => (World.frozen?_setCell _ _ _ _).trans (h.z i), (World.cell?_setCell_other _ ⟨w.heap.size + 1 + 1, j, none⟩ ⟨w.heap.size + 1 + 1, 3, none⟩ _ (by simp <;> omega)).trans h.e3, h.bel.trans (gs.below (fun k hk => by simp at hk; omega) h.bel.size)⟩
end

/-- Four cells of a block are written. -/
theorem set4 {W : World} {b : Nat} {a0 a1 a2 a3 : Value} (h0 : W.cell? ⟨b, 0, none⟩ = some a0) (h1 : W.cell? ⟨b, 1, none⟩ = some a1) (h2 : W.cell? ⟨b, 2, none⟩ = some a2) (h3 : W.cell? ⟨b, 3, none⟩ = some a3) (v0 v1 v2 v3 : Value) {X : World} (hX : (((W.setCell ⟨b, 0, none⟩ v0).setCell ⟨b, 1, none⟩ v1).setCell ⟨b, 2, none⟩ v2).setCell ⟨b, 3, none⟩ v3 = X) :
  X.cell? ⟨b, 0, none⟩ = some v0 ∧ X.cell? ⟨b, 1, none⟩ = some v1 ∧ X.cell? ⟨b, 2, none⟩ = some v2 ∧ X.cell? ⟨b, 3, none⟩ = some v3 ∧ GrownL [b] W X := by
 subst hX
 have n : ∀ i j, i ≠ j → ∀ (X : World) (v : Value), (X.setCell ⟨b, i, none⟩ v).cell? ⟨b, j, none⟩ = X.cell? ⟨b, j, none⟩ := fun i j hij X v => World.cell?_setCell_other _ ⟨b, i, none⟩ ⟨b, j, none⟩ _ (by simp <;> omega)
 obtain ⟨p0, p1, p2, g⟩ := set3 h0 h1 h2 v0 v1 v2
 refine ⟨by rw [n 3 0 (by decide), p0], by rw [n 3 1 (by decide), p1], by rw [n 3 2 (by decide), p2], World.cell?_setCell_same' _ _ _ (by rw [n 2 3 (by decide), n 1 3 (by decide), n 0 3 (by decide), h3]; rfl), g.trans (GrownL.set _ _ _ (by simp))⟩

theorem sgw2 {w w3 W w4 : World} {v u1 u2 u3 v4 : Value} {l1 l2 l3 : List Int} {y : Int} (HG : G3 (w.heap.size + 1 + 1) w3.heap.size u1 u2 u3 l1 l2 l3 W) (SS : SgW w v W) (HGR : GrownL [w.heap.size + 1 + 1] w3 W) (ho : OwnG encI 1 3 w3.heap.size v4 (l2 ++ [y]) w4) (hg : GrownL u2.ownBlock.toList W w4) (ha : v4.ownBlock = u2.ownBlock ∨ ∃ n, v4.ownBlock = some n ∧ W.heap.size ≤ n) :
  G3 (w.heap.size + 1 + 1) w3.heap.size u1 v4 u3 l1 (l2 ++ [y]) l3 (w4.setCell ⟨w.heap.size + 1 + 1, 1, none⟩ v4) ∧ SgW w v (w4.setCell ⟨w.heap.size + 1 + 1, 1, none⟩ v4) ∧ GrownL [w.heap.size + 1 + 1] w3 (w4.setCell ⟨w.heap.size + 1 + 1, 1, none⟩ v4) ∧ w4.cell? ⟨w.heap.size + 1 + 1, 1, none⟩ = some u2 ∧ w4.frozen? ⟨w.heap.size + 1 + 1, 1, none⟩ = false := by
 have hlt := fun b (hb : b ∈ u2.ownBlock.toList) => (HG.o2.lt b (by simpa using hb))
 have hgb := HG.gb
 have hn4 : w.heap.size + 1 + 1 ∉ u2.ownBlock.toList := fun hm => by have := (hlt _ hm).1; omega
 refine ⟨HG.app2 hg ho ha, (SS.grown hg (fun b hb => by have := (hlt b hb).1; omega)).set (by decide) _, ?_, hg.cell HG.c2 hn4, (World.frozen?_of_block (a := ⟨w.heap.size + 1 + 1, 1, none⟩) (hg.block _ HG.lt hn4)).trans HG.f2⟩
 exact HGR.newer ((hg.mono (bs' := (w.heap.size + 1 + 1) :: u2.ownBlock.toList) (by simp +contextual)).trans (GrownL.set _ _ _ (by simp))) (fun b hb => (hlt b hb).1)

theorem sgw3 {w w3 W w4 : World} {v u1 u2 u3 v4 : Value} {l1 l2 l3 : List Int} {y : Int} (HG : G3 (w.heap.size + 1 + 1) w3.heap.size u1 u2 u3 l1 l2 l3 W) (SS : SgW w v W) (HGR : GrownL [w.heap.size + 1 + 1] w3 W) (ho : OwnG encI 1 3 w3.heap.size v4 (l3 ++ [y]) w4) (hg : GrownL u3.ownBlock.toList W w4) (ha : v4.ownBlock = u3.ownBlock ∨ ∃ n, v4.ownBlock = some n ∧ W.heap.size ≤ n) :
  G3 (w.heap.size + 1 + 1) w3.heap.size u1 u2 v4 l1 l2 (l3 ++ [y]) (w4.setCell ⟨w.heap.size + 1 + 1, 2, none⟩ v4) ∧ SgW w v (w4.setCell ⟨w.heap.size + 1 + 1, 2, none⟩ v4) ∧ GrownL [w.heap.size + 1 + 1] w3 (w4.setCell ⟨w.heap.size + 1 + 1, 2, none⟩ v4) ∧ w4.cell? ⟨w.heap.size + 1 + 1, 2, none⟩ = some u3 ∧ w4.frozen? ⟨w.heap.size + 1 + 1, 2, none⟩ = false := by
 have hlt := fun b (hb : b ∈ u3.ownBlock.toList) => (HG.o3.lt b (by simpa using hb))
 have hgb := HG.gb
 have hn4 : w.heap.size + 1 + 1 ∉ u3.ownBlock.toList := fun hm => by have := (hlt _ hm).1; omega
 refine ⟨HG.app3 hg ho ha, (SS.grown hg (fun b hb => by have := (hlt b hb).1; omega)).set (by decide) _, ?_, hg.cell HG.c3 hn4, (World.frozen?_of_block (a := ⟨w.heap.size + 1 + 1, 2, none⟩) (hg.block _ HG.lt hn4)).trans HG.f3⟩
 exact HGR.newer ((hg.mono (bs' := (w.heap.size + 1 + 1) :: u3.ownBlock.toList) (by simp +contextual)).trans (GrownL.set _ _ _ (by simp))) (fun b hb => (hlt b hb).1)

set_option maxHeartbeats 16000000 in
set_option maxRecDepth 1000000 in
theorem rsigns_any (A : Option Addr) (c : Nat) (ws : Wk) (i : Nat) (p : Pl) (w : World) (h : RK w.heap.size (.slice A ws.length c) ws w) (hw : WOk ws) (hp : (allP ws)[i]? = some p) :
  Calls Try.prog 120 #[.agg #[.slice A ws.length c], .int .i64 i] w fun e w' => ∃ v1 v2 v3, e = .returned (.agg #[v1, v2, v3, .int .i64 0]) ∧ OwnG encI 1 3 w.heap.size v1 (sigH ws p.o.id) w' ∧ OwnG encI 1 3 w.heap.size v2 (sigO ws p.o.id) w' ∧ OwnG encI 1 3 w.heap.size v3 (sigR ws p.o.id) w' ∧ Below w.heap.size w w' := by
 obtain ⟨i0, hz0, hj0, hj1, hj2⟩ := info_parts infoInt
 have ht : total ws ≤ 100000 := by have := hw.tot; omega
 have hln : ws.length ≤ 100000 := by have := hw.len; omega
 have C1 := Lib.hid fun W (hb : Below w.heap.size w W) => rplaces_any A ws.length c ws W (h.up hb.size hb) ht
 have C2 := Lib.hid fun (L : List Nat) (hL : PathIs ws i L) W (hb : Below w.heap.size w W) => rpath_any (.slice A ws.length c) ws i L W (h.up hb.size hb) hw hL
 have C3 := Lib.hid fun W (hb : Below w.heap.size w W) => rheads_any A ws.length c ws W (h.up hb.size hb) ht hln
 have HW := Lib.hid hw
 have HP := Lib.hid hp
 obtain ⟨W0, hW0⟩ : ∃ W0, (((w.alloc (.cells #[.slice A ws.length c] 24)).alloc (.cells #[.slice none 0 0, .slice none 0 0, .slice none 0 0, .int .i64 0] 94)).alloc (.cells #[.slice none 0 0, .slice none 0 0, .slice none 0 0, .int .i64 0] 94)) = W0 := ⟨_, rfl⟩
 have S0 : Hid (SgW w (.slice A ws.length c) W0) := Lib.hid (by rw [← hW0]; exact ⟨by simp [go_sem], by simp [go_sem], by simp [go_sem], by simp [go_sem], by simp [go_sem], fun i => by simp [go_sem], by simp [go_sem], (((Below.refl _ _).alloc (Nat.le_refl _) _).alloc (by simp) _).alloc (by simp; omega) _⟩)
 have B0 : Hid ((∀ j, j < 3 → W0.cell? ⟨w.heap.size + 1 + 1, j, none⟩ = some (.slice none 0 0)) ∧ ∀ j, W0.frozen? ⟨w.heap.size + 1 + 1, j, none⟩ = false) := Lib.hid (by
  rw [← hW0]
  refine ⟨fun j hj => ?_, fun j => by simp [go_sem]⟩
  match j, hj with
  | 0, _ => simp [go_sem]
  | 1, _ => simp [go_sem]
  | 2, _ => simp [go_sem]
  | j + 3, hj => omega)
 have HW0 := Lib.hid hW0
 clear h hw hp ht hln hW0
 obtain ⟨L, hL⟩ : ∃ L, pathOf ws i = L := ⟨_, rfl⟩
 have HPI : Hid (PathIs ws i L) := Lib.hid (by rw [← hL]; exact pathOf_is HW.out (lt_total HP.out))
 have HLL := Lib.hid hL
 clear hL
 obtain ⟨k0, r, q0, hl0, hq0, -⟩ := HPI.out.top
 have HK0 := Lib.hid (And.intro hl0 hq0)
 clear hl0 hq0
 go_enter Try.func120, Try.ntmps120
 go_upto_region 2 with fail
 rw [HW0.out]
 have x0 := S0.out.wk
 go_wp2_with fail
 refine (C1.out _ S0.out.bel).mono ?_
 rintro e w1 ⟨pv, rfl, hpv, b1⟩
 have S1 := Lib.hid (S0.out.below b1)
 have P1 := Lib.hid hpv
 have D1 := Lib.hid b1
 obtain ⟨Ap, cp, rfl, -⟩ := hpv.form
 rw [plL_len] at P1 ⊢
 have x0 := S1.out.wk
 clear hpv b1
 go_wp2_with fail
 refine (C2.out L HPI.out _ S1.out.bel).mono ?_
 rintro e w2 ⟨ov, rfl, hov, b2⟩
 have S2 := Lib.hid (S1.out.below b2)
 have P2 := Lib.hid (P1.out.below b2)
 have O2 := Lib.hid hov
 have D2 := Lib.hid (D1.out.trans (b2.mono D1.out.size))
 obtain ⟨Ao, co, rfl, -⟩ := hov.form
 rw [List.length_map] at O2 ⊢
 have x0 := S2.out.wk
 clear hov b2
 go_wp2_with fail
 refine (C3.out _ S2.out.bel).mono ?_
 rintro e w3 ⟨hv, rfl, hhv, b3⟩
 have S3 := Lib.hid (S2.out.below b3)
 have P3 := Lib.hid ((P2.out.below b3).rr E2 (by rw [plL_len]; have := HW.out.tot; show total ws ≤ 1000000000000000; omega))
 have hll : L.length ≤ total ws := by have h1 := HPI.out.len HW.out; have h2 := HPI.out.lt; omega
 have HLN : Hid (L.length ≤ 60) := Lib.hid (by have := HW.out.tot; omega)
 have O3 := Lib.hid ((O2.out.below b3).rr EI (by rw [List.length_map]; have := HLN.out; show L.length ≤ 1000000000000000; omega))
 have hhl := headsL_len HW.out
 have H3 := Lib.hid (hhv.rr EI (by show (headsL ws).length ≤ 1000000000000000; omega))
 have D3 := Lib.hid (D2.out.trans (b3.mono D2.out.size))
 obtain ⟨Ah, ch, rfl, -⟩ := hhv.form
 have HRB : Hid ((∀ b, (Value.slice Ap (total ws) cp).ownBlock = some b → w.heap.size + 3 ≤ b) ∧ (∀ b, (Value.slice Ao L.length co).ownBlock = some b → w.heap.size + 3 ≤ b) ∧ (∀ b, (Value.slice Ah (headsL ws).length ch).ownBlock = some b → w.heap.size + 3 ≤ b)) := Lib.hid ⟨fun b hb => by have := (P1.out.lt b hb).1; have := S0.out.siz; omega, fun b hb => by have := (O2.out.lt b hb).1; have := S1.out.siz; omega, fun b hb => by have := (hhv.lt b hb).1; have := S2.out.siz; omega⟩
 obtain ⟨nh, hnh⟩ : ∃ nh, (headsL ws).length = nh := ⟨_, rfl⟩
 have HNH := Lib.hid hnh
 rw [hnh] at H3 HRB hhl ⊢
 have hh0 : (nh : Int) ≤ 16 := by omega
 have hsz := S3.out.siz
 have G0 : Hid (G3 (w.heap.size + 1 + 1) w3.heap.size (.slice none 0 0) (.slice none 0 0) (.slice none 0 0) [] [] [] w3) := Lib.hid (by
  have cl : ∀ j, j < 3 → w3.cell? ⟨w.heap.size + 1 + 1, j, none⟩ = some (.slice none 0 0) := fun j hj => (D3.out.cell (p := ⟨w.heap.size + 1 + 1, j, none⟩) (by have := S0.out.siz; show w.heap.size + 1 + 1 < _; omega)).trans (B0.out.1 j hj)
  have fl : ∀ j, w3.frozen? ⟨w.heap.size + 1 + 1, j, none⟩ = false := fun j => (D3.out.frozen (p := ⟨w.heap.size + 1 + 1, j, none⟩) (by have := S0.out.siz; show w.heap.size + 1 + 1 < _; omega)).trans (B0.out.2 j)
  exact ⟨cl 0 (by decide), cl 1 (by decide), cl 2 (by decide), fl 0, fl 1, fl 2, OwnG.nil _ _ _ _ _, OwnG.nil _ _ _ _ _, OwnG.nil _ _ _ _ _, (fun b e => by cases e), (fun b e => by cases e), (fun b e => by cases e), by omega⟩)
 clear hhv b3 hnh x0 P1 P2 O2 D1 D2 S1 S2 hll hsz
 go_wp2_with fail
 go_loopw [9] (fun u wr => ∃ k : Nat, u = .int .i64 k ∧ k ≤ nh ∧ (∃ u1, G3 (w.heap.size + 1 + 1) w3.heap.size u1 (.slice none 0 0) (.slice none 0 0) (((headsN ws).take k).map (sgH (endE ws p.o.id))) [] [] wr) ∧ SgW w (.slice A ws.length c) wr ∧ GrownL [w.heap.size + 1 + 1] w3 wr) (fun u _ => nh - (intOf u).toNat)
 case atStart => exact ⟨0, rfl, by omega, ⟨_, G0.out⟩, S3.out, GrownL.refl _ _⟩
 case round =>
  obtain ⟨k, rfl, hk, ⟨u1, hG⟩, hS, hgr⟩ := hrel
  have HG := Lib.hid hG
  have SS := Lib.hid hS
  have HGR := Lib.hid hgr
  obtain ⟨A1, c1, rfl, -⟩ := hG.o1.form
  clear hG hS hgr G0
  by_cases hkl : k < nh
  ·have hk0 : (k : Int) < (nh : Int) := by omega
   obtain ⟨x, hx⟩ : ∃ x, (headsN ws)[k]? = some x := ⟨_, List.getElem?_eq_getElem (by have := HNH.out; simp [headsL] at this; omega)⟩
   have hxl : (headsL ws)[k]? = some (x : Int) := by unfold headsL; rw [List.getElem?_map, hx]; rfl
   obtain ⟨y, hy⟩ : ∃ y, sgH (endE ws p.o.id) x = y := ⟨_, rfl⟩
   have HY := Lib.hid hy
   have HV : Hid (y = if (x : Int) = q0.c then 1 else 0) := Lib.hid (by rw [← hy]; exact sgH_at HW.out HP.out (HLL.out.trans HK0.out.1) HK0.out.2 (List.mem_of_getElem? hx))
   have HT : Hid (((headsN ws).take (k + 1)).map (sgH (endE ws p.o.id)) = ((headsN ws).take k).map (sgH (endE ws p.o.id)) ++ [y]) := Lib.hid (by rw [take_snoc_get hx, List.map_append, ← hy]; rfl)
   clear hy
   have hb2 : ∀ b, w.heap.size + 3 ≤ b → b ∉ [w.heap.size + 1 + 1] := fun b hb hm => by simp at hm; omega
   obtain ⟨bh, oh, rfl, hbh, q1⟩ := H3.out.int hxl
   have y1 : wr.cell? ⟨bh, oh + k, none⟩ = some (.int .i64 x) := HGR.out.cell q1 (hb2 _ (HRB.out.2.2 bh rfl))
   obtain ⟨bo, oo, rfl, hbo, q2⟩ := O3.out.int (k := 0) (x := (k0 : Int)) (by rw [HK0.out.1]; rfl)
   have y2 : wr.cell? ⟨bo, oo + 0, none⟩ = some (.int .i64 k0) := HGR.out.cell q2 (hb2 _ (HRB.out.2.1 bo rfl))
   obtain ⟨bp, op, rfl, hbp, q3, -⟩ := P3.out.span (outs_get HK0.out.2).2
   have y3 : wr.cell? ⟨bp, op + k0 * 2, none⟩ = some (.int .i64 q0.c) := HGR.out.cell q3 (hb2 _ (HRB.out.1 bp rfl))
   have hL0 : (0 : Int) < (L.length : Int) := by rw [HK0.out.1]; simp
   have hk1 : (k0 : Int) < (total ws : Int) := by have := lt_total HK0.out.2; omega
   obtain ⟨l1, hl1⟩ : ∃ l1, ((headsN ws).take k).map (sgH (endE ws p.o.id)) = l1 := ⟨_, rfl⟩
   have hl1b : l1.length ≤ 16 := by rw [← hl1, List.length_map, List.length_take]; omega
   rw [hl1] at HG HT
   obtain ⟨n1, hn1⟩ : ∃ n1, l1.length = n1 := ⟨_, rfl⟩
   have HN1 := Lib.hid hn1
   rw [Nat.add_zero] at y2
   have y4 := HG.out.c1
   have z4 := HG.out.f1
   have R1 : Hid (wr.ownsRow w3.heap.size 3 1 (.slice A1 l1.length c1) l1.length (l1.flatMap encI)) := Lib.hid (HG.out.o1)
   have hbs : w3.heap.size ≤ wr.heap.size := HGR.out.size
   rw [hn1] at R1 HG hl1b y4
   clear hx hxl q1 q2 q3 hb2 hl1 hn1
   have FIN : Hid (∀ (v4 : Value) (w4 : World), OwnG encI 1 3 w3.heap.size v4 (l1 ++ [y]) w4 → GrownL (Value.slice A1 n1 c1).ownBlock.toList wr w4 → (v4.ownBlock = (Value.slice A1 n1 c1).ownBlock ∨ ∃ n, v4.ownBlock = some n ∧ wr.heap.size ≤ n) →
     (∃ u1, G3 (w.heap.size + 1 + 1) w3.heap.size u1 (.slice none 0 0) (.slice none 0 0) (((headsN ws).take (k + 1)).map (sgH (endE ws p.o.id))) [] [] (w4.setCell ⟨w.heap.size + 1 + 1, 0, none⟩ v4)) ∧ SgW w (.slice A ws.length c) (w4.setCell ⟨w.heap.size + 1 + 1, 0, none⟩ v4) ∧ GrownL [w.heap.size + 1 + 1] w3 (w4.setCell ⟨w.heap.size + 1 + 1, 0, none⟩ v4) ∧ w4.cell? ⟨w.heap.size + 1 + 1, 0, none⟩ = some (.slice A1 n1 c1) ∧ w4.frozen? ⟨w.heap.size + 1 + 1, 0, none⟩ = false) := Lib.hid (fun v4 w4 ho hg ha => by
    have hlt := fun b (hb : b ∈ (Value.slice A1 n1 c1).ownBlock.toList) => (HG.out.o1.lt b (by simpa using hb))
    have hgb := HG.out.gb
    have hn4 : w.heap.size + 1 + 1 ∉ (Value.slice A1 n1 c1).ownBlock.toList := fun hm => by have := (hlt _ hm).1; omega
    refine ⟨⟨v4, by rw [HT.out]; exact HG.out.app1 hg ho ha⟩, (SS.out.grown hg (fun b hb => by have := (hlt b hb).1; omega)).set (by decide) _, ?_, hg.cell HG.out.c1 hn4, (World.frozen?_of_block (a := ⟨w.heap.size + 1 + 1, 0, none⟩) (hg.block _ HG.out.lt hn4)).trans HG.out.f1⟩
    exact HGR.out.newer ((hg.mono (bs' := (w.heap.size + 1 + 1) :: (Value.slice A1 n1 c1).ownBlock.toList) (by simp +contextual)).trans (GrownL.set _ _ _ (by simp))) (fun b hb => (hlt b hb).1))
   by_cases hxq : (x : Int) = q0.c
   ·have HY1 : Hid (y = 1) := Lib.hid (by rw [HV.out, if_pos hxq])
    have hbq : ((x : Int) == (q0.c : Int)) = true := by rw [beq_iff_eq]; exact hxq
    go_wp2_with fail
    go_quiet (fail)
    go_wp2_with (at_builtin; refine wpList_append_own_at _ rfl _ _ 25 rfl w3.heap.size 3 i0 (.int .i64 0) 1 8 Try.underlying25 hz0 hj0 hj1 hj2 rfl (by decide) _ n1 _ rfl (R1.out.alloc _) ⟨wr.heap.size, 0, none⟩ 1 1 [.int .i64 1] rfl rfl (fun i u hi => one_news wr (.int .i64 1) 3 i u hi) (fun u hu => one_one 1 u hu) ?c3 ?c4 ?c5 ?_)
    case c3 => unfold maxLen; omega
    case c4 => omega
    case c5 => first | (simp <;> omega) | omega
    intro v4 w4 hown4 hgrow4 _ hat4
    have O4 : Hid (OwnG encI 1 3 w3.heap.size v4 (l1 ++ [y]) w4) := Lib.hid (by unfold OwnG; rw [List.flatMap_append, List.length_append, HN1.out, HY1.out]; exact hown4)
    obtain ⟨A4, c4, rfl, -⟩ := O4.out.form
    obtain ⟨n4, hn4⟩ : ∃ n, (l1 ++ [y]).length = n := ⟨_, rfl⟩
    rw [hn4] at O4 hat4 ⊢
    obtain ⟨f1, f2, f3, f4, f5⟩ := FIN.out _ w4 O4.out ((GrownL.of_below ((below_drewN (Below.refl wr.heap.size wr) _).alloc (Nat.le_refl _) (.cells #[.int .i64 _] 3))).trans (GrownL.of_row hgrow4)) (hat4.imp (fun h => h) (fun h => ⟨_, h, by simp⟩))
    clear hn4
    have F := Lib.hid (And.intro f1 (And.intro f2 f3))
    clear f1 f2 f3 hown4 hgrow4 hat4
    go_wp2_with fail
    go_roundw
    case rel => exact ⟨k + 1, by go_num, by omega, F.out⟩
    case measure => show nh - ((k : Int) + 1).toNat < nh - (k : Int).toNat; omega
   ·have HY1 : Hid (y = 0) := Lib.hid (by rw [HV.out, if_neg hxq])
    have hbq : ((x : Int) == (q0.c : Int)) = false := by rw [beq_eq_false_iff_ne]; exact hxq
    go_wp2_with fail
    go_quiet (fail)
    go_wp2_with (at_builtin; refine wpList_append_own_at _ rfl _ _ 25 rfl w3.heap.size 3 i0 (.int .i64 0) 1 8 Try.underlying25 hz0 hj0 hj1 hj2 rfl (by decide) _ n1 _ rfl (R1.out.alloc _) ⟨wr.heap.size, 0, none⟩ 1 1 [.int .i64 0] rfl rfl (fun i u hi => one_news wr (.int .i64 0) 3 i u hi) (fun u hu => one_one 0 u hu) ?c3 ?c4 ?c5 ?_)
    case c3 => unfold maxLen; omega
    case c4 => omega
    case c5 => first | (simp <;> omega) | omega
    intro v4 w4 hown4 hgrow4 _ hat4
    have O4 : Hid (OwnG encI 1 3 w3.heap.size v4 (l1 ++ [y]) w4) := Lib.hid (by unfold OwnG; rw [List.flatMap_append, List.length_append, HN1.out, HY1.out]; exact hown4)
    obtain ⟨A4, c4, rfl, -⟩ := O4.out.form
    obtain ⟨n4, hn4⟩ : ∃ n, (l1 ++ [y]).length = n := ⟨_, rfl⟩
    rw [hn4] at O4 hat4 ⊢
    obtain ⟨f1, f2, f3, f4, f5⟩ := FIN.out _ w4 O4.out ((GrownL.of_below ((below_drewN (Below.refl wr.heap.size wr) _).alloc (Nat.le_refl _) (.cells #[.int .i64 _] 3))).trans (GrownL.of_row hgrow4)) (hat4.imp (fun h => h) (fun h => ⟨_, h, by simp⟩))
    clear hn4
    have F := Lib.hid (And.intro f1 (And.intro f2 f3))
    clear f1 f2 f3 hown4 hgrow4 hat4
    go_wp2_with fail
    go_roundw
    case rel => exact ⟨k + 1, by go_num, by omega, F.out⟩
    case measure => show nh - ((k : Int) + 1).toNat < nh - (k : Int).toNat; omega
  ·have hk0 : (nh : Int) ≤ (k : Int) := by omega
   obtain rfl : k = nh := by omega
   have HE : Hid (((headsN ws).take k).map (sgH (endE ws p.o.id)) = sigH ws p.o.id) := Lib.hid (by rw [List.take_of_length_le (by have := HNH.out; simp [headsL] at this; omega)]; rfl)
   rw [HE.out] at HG
   obtain ⟨m1, hm1⟩ : ∃ m, (sigH ws p.o.id).length = m := ⟨_, rfl⟩
   rw [hm1] at HG
   obtain ⟨U1, hU1⟩ : ∃ U, Value.slice A1 m1 c1 = U := ⟨_, rfl⟩
   have HU1 := Lib.hid hU1
   rw [hU1] at HG
   clear hm1 hU1 hk hk0 hkl HE
   go_wp2_with fail
   go_loopw [11] (fun u wq => ∃ (n : Nat) (u2 u3 : Value), u = .int .i64 n ∧ n ≤ total ws ∧ G3 (w.heap.size + 1 + 1) w3.heap.size U1 u2 u3 (sigH ws p.o.id) (((allP ws).take n).map (sgO (endE ws p.o.id))) (((allP ws).take n).map (sgR (endE ws p.o.id))) wq ∧ SgW w (.slice A ws.length c) wq ∧ GrownL [w.heap.size + 1 + 1] w3 wq) (fun u _ => total ws - (intOf u).toNat)
   case atStart => exact ⟨0, _, _, rfl, by omega, HG.out, SS.out, HGR.out⟩
   case round =>
    obtain ⟨n, u2, u3, rfl, hn, hG, hS, hgr⟩ := hrel
    obtain ⟨wo, rfl⟩ : ∃ wo, wo = wr := ⟨_, rfl⟩
    have HG := Lib.hid hG
    have SS := Lib.hid hS
    have HGR := Lib.hid hgr
    have ht60 := HW.out.tot
    clear hG hS hgr
    by_cases hnl : n < total ws
    ·have hn0 : (n : Int) < (total ws : Int) := by omega
     obtain ⟨q, hq⟩ := at_total hnl
     have HQ := Lib.hid hq
     clear hq
     go_wp2_with fail
     go_loopw [12, 13] (fun a u wi => ∃ j : Nat, u = .int .i64 j ∧ j ≤ L.length ∧ a = .bool (ahB ws (L.take j) q) ∧ Below wo.heap.size wo wi) (fun _ u _ => L.length - (intOf u).toNat)
     case atStart => exact ⟨0, rfl, by omega, rfl, Below.refl _ _⟩
     case round =>
      obtain ⟨j, rfl, hj, rfl, hb⟩ := hrel
      have HB := Lib.hid hb
      clear hb
      have hL60 := HLN.out
      by_cases hjl : j < L.length
      ·have hj0 : (j : Int) < (L.length : Int) := by omega
       obtain ⟨m, hm⟩ : ∃ m, L[j]? = some m := ⟨_, List.getElem?_eq_getElem hjl⟩
       have hmt : m < total ws := HPI.out.mem m (List.mem_of_getElem? hm)
       obtain ⟨qm, hqm⟩ := at_total hmt
       have HAS := Lib.hid (ahB_snoc (q := q) hm hqm)
       have hb2 : ∀ b, w.heap.size + 3 ≤ b → b ∉ [w.heap.size + 1 + 1] := fun b hb hm => by simp at hm; omega
       obtain ⟨bo, oo, rfl, hbo, q2⟩ := O3.out.int (k := j) (x := (m : Int)) (by rw [List.getElem?_map, hm]; rfl)
       have y2 : wr.cell? ⟨bo, oo + j, none⟩ = some (.int .i64 m) := BelS.c HB.out (HGR.out.cell q2 (hb2 _ (HRB.out.2.1 bo rfl)))
       obtain ⟨bp, op, e1, hbp, q3, q4⟩ := P3.out.span (outs_get hqm).2
       subst e1
       have y3 : wr.cell? ⟨bp, op + m * 2, none⟩ = some (.int .i64 qm.c) := BelS.c HB.out (HGR.out.cell q3 (hb2 _ (HRB.out.1 bp rfl)))
       have y4 : wr.cell? ⟨bp, op + m * 2 + 1, none⟩ = some (.int .i64 qm.n) := BelS.c HB.out (HGR.out.cell q4 (hb2 _ (HRB.out.1 bp rfl)))
       obtain ⟨bp', op', e1, -, q5, q6⟩ := P3.out.span (outs_get HQ.out).2
       obtain ⟨rfl, rfl⟩ : bp = bp' ∧ op = op' := by simpa using e1
       have y5 : wr.cell? ⟨bp, op + n * 2, none⟩ = some (.int .i64 q.c) := BelS.c HB.out (HGR.out.cell q5 (hb2 _ (HRB.out.1 bp rfl)))
       have y6 : wr.cell? ⟨bp, op + n * 2 + 1, none⟩ = some (.int .i64 q.n) := BelS.c HB.out (HGR.out.cell q6 (hb2 _ (HRB.out.1 bp rfl)))
       have hm1 : (m : Int) < (total ws : Int) := by omega
       obtain ⟨b, hb⟩ : ∃ b, ahB ws (L.take j) q = b := ⟨_, rfl⟩
       rw [hb] at HAS ⊢
       clear hm hmt hqm hb2 q2 q3 q4 q5 q6 e1 hb
       cases b
       ·by_cases hc : (qm.c : Int) = q.c
        ·have hcb : ((qm.c : Int) == (q.c : Int)) = true := by rw [beq_iff_eq]; exact hc
         by_cases hlt : (q.n : Int) < qm.n
         ·have HV : Hid (ahB ws (L.take (j + 1)) q = true) := Lib.hid (by rw [HAS.out, decide_eq_true (by omega), decide_eq_true (by omega)]; rfl)
          go_wp2_with fail
          go_quiet (fail)
          go_wp2_with fail
          go_roundw
          case rel => exact ⟨j + 1, by go_num, by omega, by rw [HV.out]; try (congr 1; exact decide_eq_false (by omega)), HB.out.trans ((below_drewN (Below.refl _ _) _).mono HB.out.size)⟩
          case measure => show L.length - ((j : Int) + 1).toNat < L.length - (j : Int).toNat; omega
         ·have HV : Hid (ahB ws (L.take (j + 1)) q = false) := Lib.hid (by rw [HAS.out, decide_eq_false (p := q.n < qm.n) (by omega)]; simp)
          have hlb : decide ((q.n : Int) < (qm.n : Int)) = false := decide_eq_false hlt
          go_wp2_with fail
          go_quiet (fail)
          go_wp2_with fail
          go_roundw
          case rel => exact ⟨j + 1, by go_num, by omega, by rw [HV.out]; try (congr 1; exact decide_eq_false (by omega)), HB.out.trans ((below_drewN (Below.refl _ _) _).mono HB.out.size)⟩
          case measure => show L.length - ((j : Int) + 1).toNat < L.length - (j : Int).toNat; omega
        ·have hcb : ((qm.c : Int) == (q.c : Int)) = false := by rw [beq_eq_false_iff_ne]; exact hc
         have HV : Hid (ahB ws (L.take (j + 1)) q = false) := Lib.hid (by rw [HAS.out, decide_eq_false (p := qm.c = q.c) (by omega)]; simp)
         go_wp2_with fail
         go_quiet (fail)
         go_wp2_with fail
         go_roundw
         case rel => exact ⟨j + 1, by go_num, by omega, by rw [HV.out]; try (congr 1; exact decide_eq_false (by omega)), HB.out.trans ((below_drewN (Below.refl _ _) _).mono HB.out.size)⟩
         case measure => show L.length - ((j : Int) + 1).toNat < L.length - (j : Int).toNat; omega
       ·have HV : Hid (ahB ws (L.take (j + 1)) q = true) := Lib.hid (by rw [HAS.out]; rfl)
        go_wp2_with fail
        go_quiet (fail)
        go_wp2_with fail
        go_roundw
        case rel => exact ⟨j + 1, by go_num, by omega, by rw [HV.out]; try (congr 1; exact decide_eq_false (by omega)), HB.out.trans ((below_drewN (Below.refl _ _) _).mono HB.out.size)⟩
        case measure => show L.length - ((j : Int) + 1).toNat < L.length - (j : Int).toNat; omega
      ·have hj0 : (L.length : Int) ≤ (j : Int) := by omega
       obtain rfl : j = L.length := by omega
       rw [List.take_of_length_le (Nat.le_refl _)]
       have hsg := sg_at HW.out HP.out HQ.out
       rw [HLL.out] at hsg
       obtain ⟨yo, hyo⟩ : ∃ y, sgO (endE ws p.o.id) q = y := ⟨_, rfl⟩
       obtain ⟨yr, hyr⟩ : ∃ y, sgR (endE ws p.o.id) q = y := ⟨_, rfl⟩
       have HTO : Hid (((allP ws).take (n + 1)).map (sgO (endE ws p.o.id)) = ((allP ws).take n).map (sgO (endE ws p.o.id)) ++ [yo]) := Lib.hid (by rw [take_snoc_get HQ.out, List.map_append, ← hyo]; rfl)
       have HTR : Hid (((allP ws).take (n + 1)).map (sgR (endE ws p.o.id)) = ((allP ws).take n).map (sgR (endE ws p.o.id)) ++ [yr]) := Lib.hid (by rw [take_snoc_get HQ.out, List.map_append, ← hyr]; rfl)
       rw [hyo, hyr] at hsg
       have HSG := Lib.hid hsg
       clear hsg hyo hyr
       have OW := Lib.hid ((O3.out.grown HGR.out (fun g hg hm => by have := HRB.out.2.1 g hg; simp at hm; omega)).up HB.out.size HB.out)
       have G1 := Lib.hid (HG.out.grown (bs := []) (GrownL.of_below HB.out) (by simp) (by simp))
       have S1 := Lib.hid (SS.out.below HB.out)
       have R1 := Lib.hid (HGR.out.trans (GrownL.of_below (bs := [w.heap.size + 1 + 1]) HB.out))
       obtain ⟨ah, hah⟩ : ∃ b, ahB ws L q = b := ⟨_, rfl⟩
       rw [hah] at HSG ⊢
       clear hah hj hj0 hjl
       go_wp2_with fail
       refine (rin_any _ _ (n : Int) _ OW.out (by rw [List.length_map]; omega)).mono ?_
       rintro e w5 ⟨rfl, b5⟩
       have G2 := Lib.hid (G1.out.grown (bs := []) (GrownL.of_below b5) (by simp) (by simp))
       have S2 := Lib.hid (S1.out.below b5)
       have R2 := Lib.hid (R1.out.trans (GrownL.of_below (bs := [w.heap.size + 1 + 1]) b5))
       have hmem : decide ((n : Int) ∈ L.map Int.ofNat) = decide (n ∈ L) := by
        refine decide_eq_decide.2 ⟨fun h => ?_, fun h => List.mem_map.2 ⟨n, h, rfl⟩⟩
        obtain ⟨k, hk, he⟩ := List.mem_map.1 h
        have : k = n := by have : (k : Int) = n := he; omega
        exact this ▸ hk
       rw [hmem]
       obtain ⟨it, hit⟩ : ∃ b, decide (n ∈ L) = b := ⟨_, rfl⟩
       have HIT := Lib.hid hit
       rw [hit]
       clear hmem hit b5 OW G1 S1 R1
       obtain ⟨A2, c2, rfl, -⟩ := G2.out.o2.form
       obtain ⟨A3, c3, rfl, -⟩ := G2.out.o3.form
       obtain ⟨l2, hl2⟩ : ∃ l, ((allP ws).take n).map (sgO (endE ws p.o.id)) = l := ⟨_, rfl⟩
       obtain ⟨l3, hl3⟩ : ∃ l, ((allP ws).take n).map (sgR (endE ws p.o.id)) = l := ⟨_, rfl⟩
       have hb2 : l2.length ≤ 60 := by rw [← hl2, List.length_map, List.length_take]; omega
       have hb3 : l3.length ≤ 60 := by rw [← hl3, List.length_map, List.length_take]; omega
       rw [hl2, hl3] at G2
       rw [hl2] at HTO
       rw [hl3] at HTR
       obtain ⟨n2, hn2⟩ : ∃ n, l2.length = n := ⟨_, rfl⟩
       obtain ⟨n3, hn3⟩ : ∃ n, l3.length = n := ⟨_, rfl⟩
       have HN2 := Lib.hid hn2
       have HN3 := Lib.hid hn3
       have RA : Hid (w5.ownsRow w3.heap.size 3 1 (.slice A2 l2.length c2) l2.length (l2.flatMap encI)) := Lib.hid G2.out.o2
       have hbs : w3.heap.size ≤ w5.heap.size := R2.out.size
       have x2 := G2.out.c2
       have z2 := G2.out.f2
       rw [hn2, hn3] at G2
       rw [hn2] at RA hb2 x2
       rw [hn3] at hb3
       clear hl2 hl3 hn2 hn3
       cases ah <;> cases it
       all_goals
        have e := HSG.out
        have hi := HIT.out
        simp at hi
        simp [hi] at e
        obtain ⟨rfl, rfl⟩ := e
        clear hi
        go_wp2_with (at_builtin; refine wpList_append_own_at _ rfl _ _ 25 rfl w3.heap.size 3 i0 (.int .i64 0) 1 8 Try.underlying25 hz0 hj0 hj1 hj2 rfl (by decide) _ n2 _ rfl (RA.out.alloc _) ⟨w5.heap.size, 0, none⟩ 1 1 [.int .i64 _] rfl rfl (fun i u hi => one_news w5 (.int .i64 _) 3 i u hi) (fun u hu => one_one _ u hu) ?c3a ?c4a ?c5a ?_)
        case c3a => unfold maxLen; omega
        case c4a => omega
        case c5a => first | (simp <;> omega) | omega
        intro v6 w6 hown6 hgrow6 _ hat6
        have O6 := Lib.hid (own_snoc hown6 HN2.out)
        obtain ⟨A6, c6, rfl, -⟩ := O6.out.form
        obtain ⟨n6, hn6⟩ : ∃ n, n2 + 1 = n := ⟨_, rfl⟩
        rw [List.length_append, HN2.out, List.length_singleton, hn6] at O6 hat6 ⊢
        have g6 := ((GrownL.of_below ((Below.refl w5.heap.size w5).alloc (Nat.le_refl _) (.cells #[.int .i64 _] 3))).trans (GrownL.of_row hgrow6))
        obtain ⟨f1, f2, f3, f4, f5⟩ := sgw2 G2.out S2.out R2.out O6.out g6 (hat6.imp (fun h => h) (fun h => ⟨_, h, by simp⟩))
        have F := Lib.hid (And.intro f1 (And.intro f2 f3))
        have RB : Hid ((w6.setCell ⟨w.heap.size + 1 + 1, 1, none⟩ (.slice A6 n6 c6)).ownsRow w3.heap.size 3 1 (.slice A3 n3 c3) n3 (l3.flatMap encI)) := Lib.hid (by have := f1.o3; unfold OwnG at this; rwa [HN3.out] at this)
        have x3 := f1.c3
        have z3 := f1.f3
        have hbs6 : w3.heap.size ≤ w6.heap.size := by have := g6.size; omega
        have hbs7 : w3.heap.size ≤ (w6.setCell ⟨w.heap.size + 1 + 1, 1, none⟩ (.slice A6 n6 c6)).heap.size := by simpa using hbs6
        clear f1 f2 f3 hown6 hgrow6 hat6 hn6 g6 x2 z2
        go_wp2_with (at_builtin; refine wpList_append_own_at _ rfl _ _ 25 rfl w3.heap.size 3 i0 (.int .i64 0) 1 8 Try.underlying25 hz0 hj0 hj1 hj2 rfl (by decide) _ n3 _ rfl (RB.out.alloc _) ⟨w6.heap.size, 0, none⟩ 1 1 [.int .i64 _] rfl rfl (fun i u hi => new_set w6 _ _ _ 3 i u hi) (fun u hu => one_one _ u hu) ?c3b ?c4b ?c5b ?_)
        case c3b => unfold maxLen; omega
        case c4b => omega
        case c5b => first | (simp <;> omega) | omega
        intro v7 w7 hown7 hgrow7 _ hat7
        have O7 := Lib.hid (own_snoc hown7 HN3.out)
        obtain ⟨A7, c7, rfl, -⟩ := O7.out.form
        obtain ⟨n7, hn7⟩ : ∃ n, n3 + 1 = n := ⟨_, rfl⟩
        rw [List.length_append, HN3.out, List.length_singleton, hn7] at O7 hat7 ⊢
        obtain ⟨f1, f2, f3, f6, f7⟩ := sgw3 F.out.1 F.out.2.1 F.out.2.2 O7.out ((GrownL.of_below ((Below.refl _ _).alloc (Nat.le_refl _) (.cells #[.int .i64 _] 3))).trans (GrownL.of_row hgrow7)) (hat7.imp (fun h => h) (fun h => ⟨_, h, by simp⟩))
        have FF := Lib.hid (And.intro f1 (And.intro f2 f3))
        clear f1 f2 f3 hown7 hgrow7 hat7 hn7 x3 z3 f4 f5 hbs6 hbs7
        go_wp2_with fail
        go_roundw
        case rel => exact ⟨n + 1, _, _, by go_num, by omega, by rw [HTO.out, HTR.out]; exact FF.out.1, FF.out.2.1, FF.out.2.2⟩
        case measure => show total ws - ((n : Int) + 1).toNat < total ws - (n : Int).toNat; omega
    ·have hn0 : (total ws : Int) ≤ (n : Int) := by omega
     obtain rfl : n = total ws := by omega
     have HTO : Hid (((allP ws).take (total ws)).map (sgO (endE ws p.o.id)) = sigO ws p.o.id) := Lib.hid (by rw [List.take_of_length_le (by rw [allP_len]; exact Nat.le_refl _)]; rfl)
     have HTR : Hid (((allP ws).take (total ws)).map (sgR (endE ws p.o.id)) = sigR ws p.o.id) := Lib.hid (by rw [List.take_of_length_le (by rw [allP_len]; exact Nat.le_refl _)]; rfl)
     rw [HTO.out, HTR.out] at HG
     obtain ⟨A2, c2, rfl, -⟩ := HG.out.o2.form
     obtain ⟨A3, c3, rfl, -⟩ := HG.out.o3.form
     obtain ⟨n2, hn2⟩ : ∃ n, (sigO ws p.o.id).length = n := ⟨_, rfl⟩
     obtain ⟨n3, hn3⟩ : ∃ n, (sigR ws p.o.id).length = n := ⟨_, rfl⟩
     rw [hn2, hn3, ← HU1.out] at HG
     have x1 := HG.out.c1
     have x2 := HG.out.c2
     have x3 := HG.out.c3
     have x4 := SS.out.e3
     have r0 := SS.out.r0
     have r1 := SS.out.r1
     have r2 := SS.out.r2
     have r3 := SS.out.r3
     have z0 := SS.out.z 0
     have z1 := SS.out.z 1
     have z2 := SS.out.z 2
     have z3 := SS.out.z 3
     clear hn2 hn3 hn hn0 hnl HTO HTR
     go_wp2_with fail
     obtain ⟨X, hX⟩ : ∃ X, (((wo.setCell ⟨w.heap.size + 1, 0, none⟩ (.slice A1 m1 c1)).setCell ⟨w.heap.size + 1, 1, none⟩ (.slice A2 n2 c2)).setCell ⟨w.heap.size + 1, 2, none⟩ (.slice A3 n3 c3)).setCell ⟨w.heap.size + 1, 3, none⟩ (.int .i64 0) = X := ⟨_, rfl⟩
     obtain ⟨p0, p1, p2, p3, gx⟩ := set4 r0 r1 r2 r3 _ _ _ _ hX
     have HX := Lib.hid hX
     clear hX
     rw [HX.out]
     refine bodyPost_ret (v := .agg #[.slice A1 m1 c1, .slice A2 n2 c2, .slice A3 n3 c3, .int .i64 0]) (by simp [results, Try.results120, go_sem, p0, p1, p2, p3]) rfl ?_
     have hs3 := HGR.out.size
     have s3 := S3.out.siz
     have ow : ∀ u l, OwnG encI 1 3 w3.heap.size u l wo → OwnG encI 1 3 w.heap.size u l X := fun u l h => (h.grown gx (fun b hb hm => by have := (h.lt b hb).1; simp at hm; omega)).low (by omega)
     exact ⟨_, _, _, rfl, ow _ _ HG.out.o1, ow _ _ HG.out.o2, ow _ _ HG.out.o3, SS.out.bel.trans (gx.below (fun b hb => by simp at hb; omega) SS.out.bel.size)⟩
end Go.Proofs.Ytkoacclbempmdaa

/- Contract of the specification's water. -/
namespace Go.Proofs.Ytkoacclbempmdaa
open Go.RowKit

set_option maxHeartbeats 800000 in
theorem within_same (n lo hi : Int) (w : World) : Calls Try.prog 129 #[.int .i64 n, .int .i64 lo, .int .i64 hi] w fun e w' => e = .returned (.bool (inB lo hi n)) ∧ w = w' := by
 have HV : Hid (∀ x, x = (inB lo hi n) → Ending.returned (.bool x) = .returned (.bool (inB lo hi n))) := Lib.hid fun x h => by rw [h]
 have hc : (lo ≤ n) ∨ (n < lo) := by omega
 generalize hb : (inB lo hi n) = r at HV ⊢
 have HB := Lib.hid hb
 clear hb
 rcases hc with h0 | h0
 all_goals
  go_enter Try.func129, Try.ntmps129
  go_wp2_with fail
  go_ret
  refine ⟨HV.out _ ?_, ?_⟩
  ·rw [← HB.out, Bool.eq_iff_iff]
   simp [inB]
   try omega
  ·rfl
theorem rl_in {base : Nat} {v u : Value} {ws : Wk} {B : Nat} {w W : World} (h : OwnG encO 7 42 base v (outs ws) W) (hk : RK B u ws w) (hb : Below B w W) (hB : B ≤ W.heap.size) (ht : total ws ≤ 100000) : RO W.heap.size v (outs ws) W := by
 refine RO.of_rr (h.rr EO (by rw [outs_len]; show total ws ≤ 1000000000000000; omega)) (fun x hx => (outs_ps hk x hx).up hB hb)

set_option maxHeartbeats 16000000 in
set_option maxRecDepth 1000000 in
theorem rwater_any (A : Option Addr) (c : Nat) (wv : Value) (ws : Wk) (s : Wa) (d : Int) (w : World) (h : RK w.heap.size (.slice A ws.length c) ws w) (hs : RWa w.heap.size wv s w) (hw : WOk ws) (hd : (WaOk ws s ∧ d = 0) ∨ (¬ WaOk ws s ∧ d = 1)) :
  Calls Try.prog 119 #[.agg #[.slice A ws.length c], wv] w fun e w' => e = .returned (.int .i64 d) ∧ Below w.heap.size w w' := by
 obtain ⟨A1, c1, A2, c2, A3, c3, A4, c4, rfl⟩ := hs.form
 have H := Lib.hid h
 have HS := Lib.hid hs
 have HW := Lib.hid hw
 rw [waOk_iff] at hd
 have HBB := Lib.hid hd
 have ht : total ws ≤ 100000 := by have := hw.tot; omega
 have hln : ws.length ≤ 100000 := by have := hw.len; omega
 have C1 := Lib.hid fun W (hb : Below w.heap.size w W) => routlets_any A ws.length c ws W (h.up hb.size hb) ht
 have C2 := Lib.hid fun W (hb : Below w.heap.size w W) => rheads_any A ws.length c ws W (h.up hb.size hb) ht hln
 have S0 := Lib.hid (WW.new w (.slice A ws.length c) (.slice A1 s.river.length c1) (.slice A2 s.boards.length c2) (.slice A3 s.leaks.length c3) (.slice A4 s.losses.length c4))
 clear h hs hw hd
 go_enter Try.func119, Try.ntmps119
 go_wp2_with fail
 refine (C1.out _ S0.out.bel).mono ?_
 rintro e w2 ⟨lv, rfl, hlv, b1⟩
 have S2 := Lib.hid (S0.out.below b1)
 have RL := Lib.hid (rl_in hlv (H.out.up S0.out.bel.size S0.out.bel) b1 b1.size ht)
 obtain ⟨Al, cl, rfl, -⟩ := hlv.form
 have hol := outs_len ws
 rw [hol] at RL ⊢
 clear hlv b1 ht hln
 have x0 := S2.out.wk
 have x1 := S2.out.r
 have x2 := S2.out.b
 have x3 := S2.out.k
 have x4 := S2.out.l
 obtain ⟨nh, hnh⟩ : ∃ nh, (headsL ws).length = nh := ⟨_, rfl⟩
 obtain ⟨nt, hnt⟩ : ∃ nt, total ws = nt := ⟨_, rfl⟩
 have HNH := Lib.hid hnh
 have HNT := Lib.hid hnt
 have HCH : Hid (∀ W, BelS w2 W → Calls Try.prog 103 #[.agg #[.slice A ws.length c]] W fun e w' => ∃ A' c', e = .returned (.slice A' nh c') ∧ Below W.heap.size W w') := Lib.hid fun W hb => (C2.out W (S2.out.bel.trans (hb.b.mono S2.out.bel.size))).mono fun e w' ⟨v, he, ho, hb'⟩ => by
  obtain ⟨A', c', hv, -⟩ := ho.form
  exact ⟨A', c', by rw [he, hv, hnh], hb'⟩
 rw [hnt] at RL ⊢
 clear hnh hnt hol C1 C2
 go_upto_region 2 with fail
 refine wp_region_held_drew (S := BelS w2) (by kernel_rfl) (BelS.drew0 _) (fun J0 => ?_)
 have KK1 := Lib.hid fun (w_ : World) (hSw : BelS _ w_) => And.intro (hSw.c x1) (And.intro (hSw.c x2) (And.intro (hSw.c x3) (And.intro (hSw.c x4) (hSw.c x0))))
 refine tk KK1 0 14 J0 ?_
 try simp only [aS]
 refine tk KK1 1 15 J0 ?_
 try simp only [aS]
 refine tk KK1 2 16 J0 ?_
 try simp only [aS]
 refine tk KK1 3 17 J0 ?_
 try simp only [aS]
 refine wpAnyH_ready (rs := [4]) (by kernel_rfl) (by simp) ?_
 refine AllReadyH.cons rfl (fun K hK => ?_) AllReadyH.nil
 go_simp
 refine (HCH.out _ J0).mono ?_
 rintro e wq1 ⟨Ah, ch, rfl, hq1⟩
 have J1 := J0.below hq1
 clear hq1
 refine hK.out _ _ J1 (fun _ => ?_)
 clear hK K
 try simp only [aS]
 refine tk KK1 5 19 J1 ?_
 try simp only [aS]
 by_cases h0 : s.river.length = nh
 ·have h0b : ((s.river.length : Int) != (nh : Int)) = false := (neqB _ _).2.2 h0
  refine tk KK1 6 20 J1 ?_
  try simp only [aS]
  refine tk KK1 7 21 J1 ?_
  try simp only [aS]
  refine tk KK1 8 22 J1 ?_
  try simp only [aS]
  refine tk KK1 9 23 J1 ?_
  try simp only [aS]
  refine tk KK1 10 24 J1 ?_
  try simp only [aS]
  refine tk KK1 11 25 J1 ?_
  try simp only [aS]
  refine tk KK1 12 26 J1 ?_
  try simp only [aS]
  by_cases h1 : s.boards.length = nt
  ·have h1b : ((s.boards.length : Int) != (nt : Int)) = false := (neqB _ _).2.2 h1
   refine tk KK1 13 27 J1 ?_
   try simp only [aS]
   refine tk KK1 14 28 J1 ?_
   try simp only [aS]
   refine tk KK1 15 29 J1 ?_
   try simp only [aS]
   refine tk KK1 16 30 J1 ?_
   try simp only [aS]
   refine tk KK1 17 31 J1 ?_
   try simp only [aS]
   refine tk KK1 18 32 J1 ?_
   try simp only [aS]
   refine tk KK1 19 33 J1 ?_
   try simp only [aS]
   refine tk KK1 20 34 J1 ?_
   try simp only [aS]
   by_cases h2 : s.leaks.length = nt
   ·have h2b : ((s.leaks.length : Int) != (nt : Int)) = false := (neqB _ _).2.2 h2
    refine tk KK1 21 35 J1 ?_
    try simp only [aS]
    refine tk KK1 22 36 J1 ?_
    try simp only [aS]
    refine tk KK1 23 37 J1 ?_
    try simp only [aS]
    refine tk KK1 24 38 J1 ?_
    try simp only [aS]
    refine tk KK1 25 39 J1 ?_
    try simp only [aS]
    refine tk KK1 26 40 J1 ?_
    try simp only [aS]
    refine tk KK1 27 41 J1 ?_
    try simp only [aS]
    refine tk KK1 28 42 J1 ?_
    try simp only [aS]
    by_cases h3 : s.losses.length = nt
    ·have h3b : ((s.losses.length : Int) != (nt : Int)) = false := (neqB _ _).2.2 h3
     refine tk KK1 29 43 J1 ?_
     try simp only [aS]
     refine tk KK1 30 44 J1 ?_
     try simp only [aS]
     refine wpAnyH_done (by kernel_rfl) ?_ _
     have S3 := Lib.hid (S2.out.below (BelS.b J1))
     have RL := Lib.hid (RL.out.up (BelS.b J1).size (BelS.b J1))
     obtain ⟨w3, hw3⟩ : ∃ w3, wq1 = w3 := ⟨_, rfl⟩
     rw [hw3] at S3 RL ⊢
     clear hw3 x0 x1 x2 x3 x4 J0 J1
     have HBB2 : Hid ((((∀ x ∈ s.river, inB 0 1048576 x = true) ∧ ∀ p ∈ allP ws, okW s p = true) ∧ d = 0) ∨ (¬ ((∀ x ∈ s.river, inB 0 1048576 x = true) ∧ ∀ p ∈ allP ws, okW s p = true) ∧ d = 1)) := Lib.hid (by have := HBB.out; rw [HNH.out, HNT.out] at this; exact this.imp (fun h => ⟨⟨h.1.2.2.2.2.1, h.1.2.2.2.2.2⟩, h.2⟩) (fun h => ⟨fun hx => h.1 ⟨h0, h1, h2, h3, hx.1, hx.2⟩, h.2⟩))
     have HLN := Lib.hid (And.intro h1 (And.intro h2 h3))
     have hnr : (s.river.length : Int) ≤ 100000 := by have := HNH.out; have := headsL_len HW.out; omega
     have hntt : (nt : Int) ≤ 60 := by have := HNT.out; have := HW.out.tot; omega
     clear h0 h1 h2 h3 h0b h1b h2b h3b
     go_wp2_with fail
     go_loopw [6] (fun i wr => ∃ k : Nat, i = .int .i64 k ∧ k ≤ s.river.length ∧ (∀ j x, j < k → s.river[j]? = some x → inB 0 1048576 x = true) ∧ wr = w3) (fun i _ => s.river.length - (intOf i).toNat)
     case atStart => exact ⟨0, rfl, by omega, fun j x h => by omega, rfl⟩
     case round =>
      obtain ⟨k, rfl, hk, hok, rfl⟩ := hrel
      have HOK := Lib.hid hok
      have x1 := S3.out.r
      clear hok
      by_cases hkl : k < s.river.length
      ·have hk0 : (k : Int) < (s.river.length : Int) := by omega
       obtain ⟨x, hx⟩ : ∃ x, s.river[k]? = some x := ⟨_, List.getElem?_eq_getElem hkl⟩
       obtain ⟨b, o, rfl, hb, q0⟩ := (HS.out.parts.1.up S3.out.bel.size S3.out.bel).int hx
       have HX := Lib.hid hx
       clear hx
       go_wp2_with fail
       refine (within_same x 0 1048576 _).mono ?_
       rintro e w4 ⟨rfl, rfl⟩
       by_cases hin : inB 0 1048576 x = true
       ·rw [hin]
        have HIN := Lib.hid hin
        clear hin
        go_wp2_with fail
        go_roundw
        case rel => exact ⟨k + 1, by go_num, by omega, fun j y hj hy => by
         rcases Nat.lt_or_ge j k with h | h
         ·exact HOK.out j y h hy
         ·obtain rfl : j = k := by omega
          rw [HX.out] at hy
          cases hy
          exact HIN.out, trivial⟩
        case measure => show s.river.length - ((k : Int) + 1).toNat < s.river.length - (k : Int).toNat; omega
       ·rw [Bool.not_eq_true] at hin
        have HF : Hid (d = 1) := Lib.hid (HBB2.out.elim (fun hx => by have := hx.1.1 x (List.mem_of_getElem? HX.out); rw [hin] at this; cases this) (·.2))
        rw [hin]
        clear hin
        go_wp2_with fail
        go_ret
        exact ⟨by rw [HF.out]; try rfl, S3.out.bel⟩
      ·have hk0 : (s.river.length : Int) ≤ (k : Int) := by omega
       obtain rfl : k = s.river.length := by omega
       go_wp2_with fail
       go_loopw [8] (fun i wx => ∃ k : Nat, i = .int .i64 k ∧ k ≤ nt ∧ (∀ j p, j < k → (allP ws)[j]? = some p → okW s p = true) ∧ WW w (.slice A ws.length c) (.slice A1 s.river.length c1) (.slice A2 s.boards.length c2) (.slice A3 s.leaks.length c3) (.slice A4 s.losses.length c4) wx ∧ RO wx.heap.size (.slice Al nt cl) (outs ws) wx) (fun i _ => nt - (intOf i).toNat)
       case atStart => exact ⟨0, rfl, by omega, fun j x h => by omega, S3.out, RL.out⟩
       case round =>
        obtain ⟨k, rfl, hk', hok, hS4, hRL⟩ := hrel
        have HOK2 := Lib.hid hok
        have S4 := Lib.hid hS4
        have RL4 := Lib.hid hRL
        clear hok hS4 hRL
        have x1 := S4.out.r
        have x2 := S4.out.b
        have x3 := S4.out.k
        have x4 := S4.out.l
        by_cases hkl : k < nt
        ·have hk0 : (k : Int) < (nt : Int) := by omega
         obtain ⟨p, hp⟩ := at_total (ws := ws) (n := k) (by rw [HNT.out]; exact hkl)
         have hpo := (outs_get hp).1
         obtain ⟨b1, o1, hA1, hb1, hc1⟩ := ro_at RL4.out hpo
         subst hA1
         have p2 : wr.cell? ⟨b1, o1 + k * 7 + 2, none⟩ = some (.slice p.o.pa p.o.ps.length p.o.pc) := hc1.pv
         have p3 := hc1.k0
         have p4 : wr.cell? ⟨b1, o1 + k * 7 + 3 + 1, none⟩ = some (.int .i64 p.o.k1) := hc1.k1
         have p5 := hc1.s0
         have p6 : wr.cell? ⟨b1, o1 + k * 7 + 5 + 1, none⟩ = some (.int .i64 p.o.s1) := hc1.s1
         have hpl := hc1.ps.fits
         have hpl0 : (p.o.ps.length : Int) ≤ 1000000000000000 := by unfold Fits at hpl; omega
         have hat := (allP_inv hp).1
         obtain ⟨bd, hbd⟩ : ∃ x, s.boards[k]? = some x := ⟨_, List.getElem?_eq_getElem (by have := HLN.out.1; omega)⟩
         obtain ⟨lk, hlk⟩ : ∃ x, s.leaks[k]? = some x := ⟨_, List.getElem?_eq_getElem (by have := HLN.out.2.1; omega)⟩
         obtain ⟨ls, hls⟩ : ∃ x, s.losses[k]? = some x := ⟨_, List.getElem?_eq_getElem (by have := HLN.out.2.2; omega)⟩
         obtain ⟨br, or, rfl, hbr, y1⟩ := (HS.out.parts.2.1.up S4.out.bel.size S4.out.bel).int hbd
         obtain ⟨bk, ok, rfl, hbk, y2⟩ := (HS.out.parts.2.2.1.up S4.out.bel.size S4.out.bel).int hlk
         obtain ⟨bl, ol, rfl, hbll, y3⟩ := (HS.out.parts.2.2.2.up S4.out.bel.size S4.out.bel).int hls
         have hn1 : (k : Int) < (s.boards.length : Int) := by have := HLN.out.1; omega
         have hn2 : (k : Int) < (s.leaks.length : Int) := by have := HLN.out.2.1; omega
         have hn3 : (k : Int) < (s.losses.length : Int) := by have := HLN.out.2.2; omega
         have HOW : Hid (okW s p = (inB 0 ((p.o.ps.length : Int) - 1) bd && (inB p.o.k0 p.o.k1 lk && inB p.o.s0 p.o.s1 ls))) := Lib.hid (by unfold okW; rw [hat, getD_of hbd, getD_of hlk, getD_of hls])
         have HP := Lib.hid hp
         have hwr1 : IntKind.i64.wrap ((p.o.ps.length : Int) - 1) = (p.o.ps.length : Int) - 1 := IntWalk.i64_in _ (by omega)
         obtain ⟨n, hn⟩ : ∃ n, p.o.ps.length = n := ⟨_, rfl⟩
         rw [hn] at p2 hpl0 hwr1 HOW
         obtain ⟨i1, hi1⟩ : ∃ i, inB 0 ((n : Int) - 1) bd = i := ⟨_, rfl⟩
         obtain ⟨i2, hi2⟩ : ∃ i, inB p.o.k0 p.o.k1 lk = i := ⟨_, rfl⟩
         obtain ⟨i3, hi3⟩ : ∃ i, inB p.o.s0 p.o.s1 ls = i := ⟨_, rfl⟩
         have C1 := Lib.hid fun W => within_same bd 0 ((n : Int) - 1) W
         have C2 := Lib.hid fun W => within_same lk p.o.k0 p.o.k1 W
         have C3 := Lib.hid fun W => within_same ls p.o.s0 p.o.s1 W
         rw [hi1] at C1 HOW
         rw [hi2] at C2 HOW
         rw [hi3] at C3 HOW
         clear hp hpo hc1 hbd hlk hls hat hpl hbr hbk hbll hn hi1 hi2 hi3 hb1
         go_wp2_with fail
         go_quiet ((go_at_call 129; exact Calls.quiet_of_same (flip_same (C1.out _))))
         obtain ⟨Y1, hY1⟩ : ∃ Y, wr.drewN nq = Y := ⟨_, rfl⟩
         have bY1 : Below wr.heap.size wr Y1 := by rw [← hY1]; exact below_drewN (Below.refl _ _) _
         rw [hY1]
         clear hY1
         replace x3 := BelS.c bY1 x3
         replace x4 := BelS.c bY1 x4
         replace p3 := BelS.c bY1 p3
         replace p4 := BelS.c bY1 p4
         replace p5 := BelS.c bY1 p5
         replace p6 := BelS.c bY1 p6
         replace y2 := BelS.c bY1 y2
         replace y3 := BelS.c bY1 y3
         go_wp2_with fail
         go_quiet ((go_at_call 129; exact Calls.quiet_of_same (flip_same (C2.out _))))
         obtain ⟨Y2, hY2⟩ : ∃ Y, Y1.drewN nq = Y := ⟨_, rfl⟩
         have bY2 : Below Y1.heap.size Y1 Y2 := by rw [← hY2]; exact below_drewN (Below.refl _ _) _
         rw [hY2]
         clear hY2
         replace x4 := BelS.c bY2 x4
         replace p5 := BelS.c bY2 p5
         replace p6 := BelS.c bY2 p6
         replace y3 := BelS.c bY2 y3
         go_wp2_with fail
         go_quiet ((go_at_call 129; exact Calls.quiet_of_same (flip_same (C3.out _))))
         obtain ⟨Y3, hY3⟩ : ∃ Y, Y2.drewN nq = Y := ⟨_, rfl⟩
         have bY3 : Below Y2.heap.size Y2 Y3 := by rw [← hY3]; exact below_drewN (Below.refl _ _) _
         rw [hY3]
         clear hY3
         replace S4 := Lib.hid (((S4.out.below bY1).below bY2).below bY3)
         replace RL4 := Lib.hid (((RL4.out.up bY1.size bY1).up bY2.size bY2).up bY3.size bY3)
         clear C1 C2 C3 x1 x2 x3 x4 p2 p3 p4 p5 p6 y1 y2 y3 bY1 bY2 bY3
         have hx : (i1 = true ∧ i2 = true ∧ i3 = true) ∨ (i1 && (i2 && i3)) = false := by cases i1 <;> cases i2 <;> cases i3 <;> simp
         rcases hx with ⟨rfl, rfl, rfl⟩ | hx
         ·have HOK3 : Hid (okW s p = true) := Lib.hid HOW.out
          go_wp2_with fail
          go_roundw
          case rel => exact ⟨k + 1, by go_num, by omega, fun j q hj hq => by
           rcases Nat.lt_or_ge j k with h | h
           ·exact HOK2.out j q h hq
           ·obtain rfl : j = k := by omega
            rw [HP.out] at hq
            cases hq
            exact HOK3.out, S4.out, RL4.out⟩
          case measure => show nt - ((k : Int) + 1).toNat < nt - (k : Int).toNat; omega
         ·have HF : Hid (d = 1) := Lib.hid (HBB2.out.elim (fun hy => by have := hy.1.2 p (List.mem_of_getElem? HP.out); rw [HOW.out, hx] at this; cases this) (·.2))
          clear HOW
          cases i1 <;> cases i2 <;> cases i3 <;> simp only [Bool.and_self, Bool.and_true, Bool.and_false, Bool.false_and, Bool.true_and, Bool.true_eq_false, reduceCtorEq] at hx
          all_goals go_wp2_with fail
          all_goals go_ret
          all_goals exact ⟨by rw [HF.out]; try rfl, S4.out.bel⟩
        ·have hk0 : (nt : Int) ≤ (k : Int) := by omega
         obtain rfl : k = nt := by omega
         have HF : Hid (d = 0) := Lib.hid (HBB2.out.elim (·.2) (fun hx => absurd ⟨fun x hx => by
          obtain ⟨i, hi⟩ := List.mem_iff_getElem?.1 hx
          exact HOK.out i x (List.getElem?_eq_some_iff.1 hi).1 hi, fun p hp => by
          obtain ⟨i, hi⟩ := List.mem_iff_getElem?.1 hp
          exact HOK2.out i p (by have := lt_total hi; rw [HNT.out] at this; exact this) hi⟩ hx.1))
         go_wp2_with fail
         go_ret
         exact ⟨by rw [HF.out]; try rfl, S4.out.bel⟩
    ·have h3b : ((s.losses.length : Int) != (nt : Int)) = true := (neqB _ _).1.2 h3
     have HF : Hid (d = 1) := Lib.hid (HBB.out.elim (fun hx => by rw [HNH.out, HNT.out] at hx; exact absurd hx.1.2.2.2.1 h3) (·.2))
     refine tk KK1 29 43 J1 ?_
     try simp only [aS]
     refine tk KK1 30 44 J1 ?_
     try simp only [aS]
     refine wpAnyH_done (by kernel_rfl) ?_ _
     have BE := Lib.hid (S2.out.bel.trans ((BelS.b J1).mono S2.out.bel.size))
     clear x0 x1 x2 x3 x4
     go_wp2_with fail
     go_ret
     exact ⟨by rw [HF.out]; try rfl, BE.out⟩
   ·have h2b : ((s.leaks.length : Int) != (nt : Int)) = true := (neqB _ _).1.2 h2
    have HF : Hid (d = 1) := Lib.hid (HBB.out.elim (fun hx => by rw [HNH.out, HNT.out] at hx; exact absurd hx.1.2.2.1 h2) (·.2))
    refine tk KK1 21 35 J1 ?_
    try simp only [aS]
    refine tk KK1 22 36 J1 ?_
    try simp only [aS]
    refine tk KK1 23 37 J1 ?_
    try simp only [aS]
    refine sw 24 38 J1 ?_
    try simp only [aS]
    refine sw 25 39 J1 ?_
    try simp only [aS]
    refine sw 26 40 J1 ?_
    try simp only [aS]
    refine sw 27 41 J1 ?_
    try simp only [aS]
    refine sw 28 42 J1 ?_
    try simp only [aS]
    refine sw 29 43 J1 ?_
    try simp only [aS]
    refine tk KK1 30 44 J1 ?_
    try simp only [aS]
    refine wpAnyH_done (by kernel_rfl) ?_ _
    have BE := Lib.hid (S2.out.bel.trans ((BelS.b J1).mono S2.out.bel.size))
    clear x0 x1 x2 x3 x4
    go_wp2_with fail
    go_ret
    exact ⟨by rw [HF.out]; try rfl, BE.out⟩
  ·have h1b : ((s.boards.length : Int) != (nt : Int)) = true := (neqB _ _).1.2 h1
   have HF : Hid (d = 1) := Lib.hid (HBB.out.elim (fun hx => by rw [HNH.out, HNT.out] at hx; exact absurd hx.1.2.1 h1) (·.2))
   refine tk KK1 13 27 J1 ?_
   try simp only [aS]
   refine tk KK1 14 28 J1 ?_
   try simp only [aS]
   refine tk KK1 15 29 J1 ?_
   try simp only [aS]
   refine sw 16 30 J1 ?_
   try simp only [aS]
   refine sw 17 31 J1 ?_
   try simp only [aS]
   refine sw 18 32 J1 ?_
   try simp only [aS]
   refine sw 19 33 J1 ?_
   try simp only [aS]
   refine sw 20 34 J1 ?_
   try simp only [aS]
   refine sw 21 35 J1 ?_
   try simp only [aS]
   refine tk KK1 22 36 J1 ?_
   try simp only [aS]
   refine tk KK1 23 37 J1 ?_
   try simp only [aS]
   refine sw 24 38 J1 ?_
   try simp only [aS]
   refine sw 25 39 J1 ?_
   try simp only [aS]
   refine sw 26 40 J1 ?_
   try simp only [aS]
   refine sw 27 41 J1 ?_
   try simp only [aS]
   refine sw 28 42 J1 ?_
   try simp only [aS]
   refine sw 29 43 J1 ?_
   try simp only [aS]
   refine tk KK1 30 44 J1 ?_
   try simp only [aS]
   refine wpAnyH_done (by kernel_rfl) ?_ _
   have BE := Lib.hid (S2.out.bel.trans ((BelS.b J1).mono S2.out.bel.size))
   clear x0 x1 x2 x3 x4
   go_wp2_with fail
   go_ret
   exact ⟨by rw [HF.out]; try rfl, BE.out⟩
 ·have h0b : ((s.river.length : Int) != (nh : Int)) = true := (neqB _ _).1.2 h0
  have HF : Hid (d = 1) := Lib.hid (HBB.out.elim (fun hx => by rw [HNH.out, HNT.out] at hx; exact absurd hx.1.1 h0) (·.2))
  refine tk KK1 6 20 J1 ?_
  try simp only [aS]
  refine tk KK1 7 21 J1 ?_
  try simp only [aS]
  refine sw 8 22 J1 ?_
  try simp only [aS]
  refine sw 9 23 J1 ?_
  try simp only [aS]
  refine sw 10 24 J1 ?_
  try simp only [aS]
  refine sw 11 25 J1 ?_
  try simp only [aS]
  refine sw 12 26 J1 ?_
  try simp only [aS]
  refine sw 13 27 J1 ?_
  try simp only [aS]
  refine tk KK1 14 28 J1 ?_
  try simp only [aS]
  refine tk KK1 15 29 J1 ?_
  try simp only [aS]
  refine sw 16 30 J1 ?_
  try simp only [aS]
  refine sw 17 31 J1 ?_
  try simp only [aS]
  refine sw 18 32 J1 ?_
  try simp only [aS]
  refine sw 19 33 J1 ?_
  try simp only [aS]
  refine sw 20 34 J1 ?_
  try simp only [aS]
  refine sw 21 35 J1 ?_
  try simp only [aS]
  refine tk KK1 22 36 J1 ?_
  try simp only [aS]
  refine tk KK1 23 37 J1 ?_
  try simp only [aS]
  refine sw 24 38 J1 ?_
  try simp only [aS]
  refine sw 25 39 J1 ?_
  try simp only [aS]
  refine sw 26 40 J1 ?_
  try simp only [aS]
  refine sw 27 41 J1 ?_
  try simp only [aS]
  refine sw 28 42 J1 ?_
  try simp only [aS]
  refine sw 29 43 J1 ?_
  try simp only [aS]
  refine tk KK1 30 44 J1 ?_
  try simp only [aS]
  refine wpAnyH_done (by kernel_rfl) ?_ _
  have BE := Lib.hid (S2.out.bel.trans ((BelS.b J1).mono S2.out.bel.size))
  clear x0 x1 x2 x3 x4
  go_wp2_with fail
  go_ret
  exact ⟨by rw [HF.out]; try rfl, BE.out⟩
end Go.Proofs.Ytkoacclbempmdaa
