/- Contract of the specification's flow. -/
import Derived.Test.YtkoacclbempmdaaGW
import Derived.Maps.AppendAt
import Derived.Test.YtkoacclbempmdaaQFA
import Derived.Test.YtkoacclbempmdaaGS
import Derived.Test.YtkoacclbempmdaaGZF
import Derived.Test.YtkoacclbempmdaaGZE
namespace Go.Proofs.Ytkoacclbempmdaa
open Go.RowKit

theorem GL.setO {g base : Nat} {us : List Value} {ls : List (List Int)} {W : World} (h : GL g base us ls W) {k : Nat} (hk : us.length ≤ k) (x : Value) : GL g base us ls (W.setCell ⟨g, k, none⟩ x) := by
 have gs : GrownL [g] W (W.setCell ⟨g, k, none⟩ x) := GrownL.set _ _ _ (by simp)
 refine ⟨fun j u hj => ?_, fun j => (World.frozen?_setCell _ _ _ _).trans (h.f j), fun j u l hu hl => (h.o j u l hu hl).grown gs (fun b hb hm => by have := (h.own hu hb).1; have := h.gb; simp at hm; omega), h.d, h.gb, by simp; exact h.gl, h.len⟩
 have := (List.getElem?_eq_some_iff.1 hj).1
 exact (World.cell?_setCell_other _ ⟨g, k, none⟩ ⟨g, j, none⟩ _ (by simp <;> omega)).trans (h.c j u hj)
/-- What the specification's flow keeps besides its lists. -/
structure FlK (w : World) (v a b c d : Value) (W : World) : Prop where
 wk : W.cell? ⟨w.heap.size, 0, none⟩ = some v
 r : W.cell? ⟨w.heap.size + 1, 0, none⟩ = some a
 b : W.cell? ⟨w.heap.size + 1, 1, none⟩ = some b
 k : W.cell? ⟨w.heap.size + 1, 2, none⟩ = some c
 l : W.cell? ⟨w.heap.size + 1, 3, none⟩ = some d
 z0 : W.cell? ⟨w.heap.size + 1 + 1, 0, none⟩ = some (.slice none 0 0)
 z1 : W.cell? ⟨w.heap.size + 1 + 1, 1, none⟩ = some (.slice none 0 0)
 z2 : W.cell? ⟨w.heap.size + 1 + 1, 2, none⟩ = some (.int .i64 0)
 fz : ∀ i, W.frozen? ⟨w.heap.size + 1 + 1, i, none⟩ = false
 bel : Below w.heap.size w W
section
variable {w W W' : World} {v a b c d : Value}
theorem FlK.siz (h : FlK w v a b c d W) : w.heap.size + 3 ≤ W.heap.size := World.block_lt_of_cell? _ _ h.z0
theorem FlK.grown {bs : List Nat} (h : FlK w v a b c d W) (hg : GrownL bs W W') (hn : ∀ k ∈ bs, w.heap.size + 3 ≤ k) : FlK w v a b c d W' := by
 have n0 : ∀ k, k < w.heap.size + 3 → k ∉ bs := fun k hk hm => by have := hn k hm; omega
 have n1 := n0 w.heap.size (by omega)
 have n2 := n0 (w.heap.size + 1) (by omega)
 have n3 := n0 (w.heap.size + 1 + 1) (by omega)
 exact ⟨hg.cell h.wk n1, hg.cell h.r n2, hg.cell h.b n2, hg.cell h.k n2, hg.cell h.l n2, hg.cell h.z0 n3, hg.cell h.z1 n3, hg.cell h.z2 n3,
  fun i => (World.frozen?_of_block (a := ⟨w.heap.size + 1 + 1, i, none⟩) (hg.block (w.heap.size + 1 + 1) (World.block_lt_of_cell? _ _ h.z0) n3)).trans (h.fz i), h.bel.trans (hg.below (fun k hk => by have := hn k hk; omega) h.bel.size)⟩
theorem FlK.below (h : FlK w v a b c d W) (hb : Below W.heap.size W W') : FlK w v a b c d W' := h.grown (GrownL.of_below (bs := []) hb) (by simp)
end
/-- The result in the making: two lists of its own, and a number. -/
structure FlO (g base : Nat) (u1 u2 : Value) (l1 l2 : List Int) (n : Int) (W : World) : Prop where
 gl : GL g base [u1, u2] [l1, l2] W
 n : W.cell? ⟨g, 2, none⟩ = some (.int .i64 n)
section
variable {g base : Nat} {u1 u2 v' : Value} {l1 l2 : List Int} {n m x : Int} {W W' W4 : World}
theorem FlO.c1 (h : FlO g base u1 u2 l1 l2 n W) : W.cell? ⟨g, 0, none⟩ = some u1 := h.gl.c 0 u1 rfl
theorem FlO.c2 (h : FlO g base u1 u2 l1 l2 n W) : W.cell? ⟨g, 1, none⟩ = some u2 := h.gl.c 1 u2 rfl
theorem FlO.o1 (h : FlO g base u1 u2 l1 l2 n W) : OwnG encI 1 3 base u1 l1 W := h.gl.o 0 u1 l1 rfl rfl
theorem FlO.o2 (h : FlO g base u1 u2 l1 l2 n W) : OwnG encI 1 3 base u2 l2 W := h.gl.o 1 u2 l2 rfl rfl
theorem FlO.grown {bs : List Nat} (h : FlO g base u1 u2 l1 l2 n W) (hg : GrownL bs W W') (hn : g ∉ bs) (hr : ∀ k ∈ bs, k < base ∨ W.heap.size ≤ k) : FlO g base u1 u2 l1 l2 n W' := ⟨h.gl.grown hg hn hr, hg.cell h.n hn⟩
theorem FlO.below (h : FlO g base u1 u2 l1 l2 n W) (hb : Below W.heap.size W W') : FlO g base u1 u2 l1 l2 n W' := h.grown (GrownL.of_below (bs := []) hb) (by simp) (by simp)
theorem FlO.setn (h : FlO g base u1 u2 l1 l2 n W) (m : Int) : FlO g base u1 u2 l1 l2 m (W.setCell ⟨g, 2, none⟩ (.int .i64 m)) := ⟨h.gl.setO (by simp) _, World.cell?_setCell_same' _ _ _ (by rw [h.n]; rfl)⟩
theorem FlO.app1 (h : FlO g base u1 u2 l1 l2 n W) (hg : GrownL u1.ownBlock.toList W W4) (ho : OwnG encI 1 3 base v' (l1 ++ [x]) W4) (ha : v'.ownBlock = u1.ownBlock ∨ ∃ n, v'.ownBlock = some n ∧ W.heap.size ≤ n) : FlO g base v' u2 (l1 ++ [x]) l2 n (W4.setCell ⟨g, 0, none⟩ v') := by
 have hn : g ∉ u1.ownBlock.toList := fun hm => by have := (h.o1.lt g (by simpa using hm)).1; have := h.gl.gb; omega
 exact ⟨h.gl.app (k := 0) rfl rfl hg ho ha, (World.cell?_setCell_other _ ⟨g, 0, none⟩ ⟨g, 2, none⟩ _ (by simp)).trans (hg.cell h.n hn)⟩
theorem FlO.app2 (h : FlO g base u1 u2 l1 l2 n W) (hg : GrownL u2.ownBlock.toList W W4) (ho : OwnG encI 1 3 base v' (l2 ++ [x]) W4) (ha : v'.ownBlock = u2.ownBlock ∨ ∃ n, v'.ownBlock = some n ∧ W.heap.size ≤ n) : FlO g base u1 v' l1 (l2 ++ [x]) n (W4.setCell ⟨g, 1, none⟩ v') := by
 have hn : g ∉ u2.ownBlock.toList := fun hm => by have := (h.o2.lt g (by simpa using hm)).1; have := h.gl.gb; omega
 exact ⟨h.gl.app (k := 1) rfl rfl hg ho ha, (World.cell?_setCell_other _ ⟨g, 1, none⟩ ⟨g, 2, none⟩ _ (by simp)).trans (hg.cell h.n hn)⟩
end
def FlowR (ws : Wk) (s : Wa) (w : World) (e : Ending) (w' : World) : Prop := ∃ v1 v2, e = .returned (.agg #[v1, v2, .int .i64 (flowF ws s).lost]) ∧ OwnG encI 1 3 w.heap.size v1 (flowF ws s).thr w' ∧ OwnG encI 1 3 w.heap.size v2 (tailsL ws s) w' ∧ Below w.heap.size w w'
def tailsTo (ws : Wk) (s : Wa) (c : Nat) : List Int := (List.range c).map (flowF ws s).t
theorem tailsTo_succ (ws : Wk) (s : Wa) (c : Nat) : tailsTo ws s (c + 1) = tailsTo ws s c ++ [(flowF ws s).t c] := by
 unfold tailsTo
 rw [List.range_succ, List.map_append]
 rfl
/-- What a carrier has at its beginning. -/
theorem t_start {ws : Wk} (hw : WOk ws) (s : Wa) {c : Nat} {r : Int} (hr : FstIs (fun o : Ou => o.into) (outs ws) c r) : (r = -1 ∧ (flowTo ws s (pre ws c)).t c = startT ws s c) ∨ ∃ j : Nat, r = j ∧ j < pre ws c ∧ (flowTo ws s (pre ws c)).t c = (flowTo ws s (pre ws c)).thr.getD j 0 := by
 have h := t_before hw s hr (pre ws c) (Nat.le_refl _)
 have hr' := hr
 rcases hr with ⟨i, o, ho, he, -, rfl⟩ | ⟨-, rfl⟩
 ·right
  obtain ⟨q, hq⟩ := at_total (ws := ws) (n := i) (by have := (List.getElem?_eq_some_iff.1 ho).1; rw [outs_len] at this; exact this)
  have := (outs_get hq).1
  rw [ho] at this
  cases this
  have hlt := (hw.into_lt hq he).1
  obtain ⟨-, os, h1, h2, h3⟩ := allP_inv hq
  have h4 := pre_succ h1
  have h5 : pre ws (q.c + 1) ≤ pre ws c := pre_mono hlt
  have h6 := (List.getElem?_eq_some_iff.1 h2).1
  refine ⟨i, rfl, by omega, ?_⟩
  rw [h, if_pos (by omega)]
  simp
 ·left
  refine ⟨rfl, ?_⟩
  rw [h, if_neg (by omega)]

set_option maxHeartbeats 16000000 in
set_option maxRecDepth 1000000 in
theorem rflow_any (A : Option Addr) (c : Nat) (wv : Value) (ws : Wk) (s : Wa) (w : World) (h : RK w.heap.size (.slice A ws.length c) ws w) (hs : RWa w.heap.size wv s w) (hw : WOk ws) (ho : WaOk ws s) :
  Calls Try.prog 118 #[.agg #[.slice A ws.length c], wv] w (FlowR ws s w) := by
 obtain ⟨i0, hz0, hi1, hi2, hi3⟩ := info_parts infoInt
 obtain ⟨A1, c1, A2, c2, A3, c3, A4, c4, rfl⟩ := hs.form
 have ht : total ws ≤ 100000 := by have := hw.tot; omega
 have hln : ws.length ≤ 100000 := by have := hw.len; omega
 have C1 := Lib.hid fun W (hb : Below w.heap.size w W) => rheads_any A ws.length c ws W (h.up hb.size hb) ht hln
 have C2 := Lib.hid fun (k : Nat) (r : Int) (hr : FstIs (fun o : Ou => o.into) (outs ws) k r) W (hb : Below w.heap.size w W) => rfeeder_any A ws.length c ws k r W (h.up hb.size hb) ht hr
 have H := Lib.hid h
 have HS := Lib.hid hs
 have HW := Lib.hid hw
 have HO := Lib.hid ho
 obtain ⟨W0, hW0⟩ : ∃ W0, ((((w.alloc (.cells #[.slice A ws.length c] 24)).alloc (.cells #[.slice A1 s.river.length c1, .slice A2 s.boards.length c2, .slice A3 s.leaks.length c3, .slice A4 s.losses.length c4] 27)).alloc (.cells #[.slice none 0 0, .slice none 0 0, .int .i64 0] 171)).alloc (.cells #[.slice none 0 0, .slice none 0 0, .int .i64 0] 171)) = W0 := ⟨_, rfl⟩
 have K0 : Hid (FlK w (.slice A ws.length c) (.slice A1 s.river.length c1) (.slice A2 s.boards.length c2) (.slice A3 s.leaks.length c3) (.slice A4 s.losses.length c4) W0) := Lib.hid (by rw [← hW0]; exact ⟨by simp [go_sem], by simp [go_sem], by simp [go_sem], by simp [go_sem], by simp [go_sem], by simp [go_sem], by simp [go_sem], by simp [go_sem], fun i => by simp [go_sem], ((((Below.refl _ _).alloc (Nat.le_refl _) _).alloc (by simp) _).alloc (by simp; omega) _).alloc (by simp; omega) _⟩)
 have B0 : Hid ((∀ j, j < 2 → W0.cell? ⟨w.heap.size + 1 + 1 + 1, j, none⟩ = some (.slice none 0 0)) ∧ (∀ j, W0.frozen? ⟨w.heap.size + 1 + 1 + 1, j, none⟩ = false) ∧ W0.cell? ⟨w.heap.size + 1 + 1 + 1, 2, none⟩ = some (.int .i64 0) ∧ W0.heap.size = w.heap.size + 4) := Lib.hid (by
  rw [← hW0]
  refine ⟨fun j hj => ?_, fun j => by simp [go_sem], by simp [go_sem], by simp⟩
  match j, hj with
  | 0, _ => simp [go_sem]
  | 1, _ => simp [go_sem]
  | j + 2, hj => omega)
 have HW0 := Lib.hid hW0
 clear h hs hw ho ht hln hW0
 go_enter Try.func118, Try.ntmps118
 go_upto_region 2 with fail
 rw [HW0.out]
 have x0 := K0.out.wk
 go_wp2_with fail
 refine (C1.out _ K0.out.bel).mono ?_
 rintro e w1 ⟨hv, rfl, hhv, b1⟩
 have K1 := Lib.hid (K0.out.below b1)
 have hhl := headsL_len HW.out
 have HB : Hid (∀ b, hv.ownBlock = some b → w.heap.size + 4 ≤ b ∧ b < w1.heap.size) := Lib.hid (fun b hb => by have := hhv.lt b hb; have := B0.out.2.2.2; omega)
 have H1 := Lib.hid (hhv.rr EI (by show (headsL ws).length ≤ 1000000000000000; omega))
 obtain ⟨Ah, ch, rfl, -⟩ := hhv.form
 have hsz : w.heap.size + 4 ≤ w1.heap.size := by have := B0.out.2.2.2; have := b1.size; omega
 have HSZ := Lib.hid hsz
 have G0 : Hid (FlO (w.heap.size + 1 + 1 + 1) w1.heap.size (.slice none 0 0) (.slice none 0 0) [] [] 0 w1) := Lib.hid (by
  have hc := fun (p : Addr) (h : p.block < W0.heap.size) => b1.cell (p := p) h
  have hl : w.heap.size + 1 + 1 + 1 < W0.heap.size := by have := B0.out.2.2.2; omega
  exact ⟨GL.nils (by omega) (by omega) 2 (fun k hk => (hc ⟨_, k, none⟩ hl).trans (B0.out.1 k hk)) (fun k => (b1.frozen (p := ⟨w.heap.size + 1 + 1 + 1, k, none⟩) hl).trans (B0.out.2.1 k)), (hc ⟨_, 2, none⟩ hl).trans B0.out.2.2.1⟩)
 obtain ⟨nh, hnh⟩ : ∃ nh, (headsL ws).length = nh := ⟨_, rfl⟩
 have HNH := Lib.hid hnh
 rw [hnh] at H1 HB hhl ⊢
 have hh0 : (nh : Int) ≤ 16 := by omega
 have h16 := HW.out.len
 clear hhv b1 hnh x0 hsz
 go_wp2_with fail
 go_loopw [7, 8] (fun n i wr => ∃ (k : Nat) (u1 u2 : Value), i = .int .i64 k ∧ k ≤ ws.length ∧ n = .int .i64 (pre ws k) ∧ FlO (w.heap.size + 1 + 1 + 1) w1.heap.size u1 u2 (flowTo ws s (pre ws k)).thr (tailsTo ws s k) (flowTo ws s (pre ws k)).lost wr ∧ FlK w (.slice A ws.length c) (.slice A1 s.river.length c1) (.slice A2 s.boards.length c2) (.slice A3 s.leaks.length c3) (.slice A4 s.losses.length c4) wr ∧ GrownL [w.heap.size + 1 + 1 + 1] w1 wr) (fun _ i _ => ws.length - (intOf i).toNat)
 case atStart => exact ⟨0, _, _, rfl, by omega, by rw [pre_zero]; rfl, by rw [pre_zero]; exact G0.out, K1.out, GrownL.refl _ _⟩
 case round =>
  obtain ⟨k, u1, u2, rfl, hk, rfl, hG, hK, hgr⟩ := hrel
  have HG := Lib.hid hG
  have KK := Lib.hid hK
  have HGR := Lib.hid hgr
  have x0 := hK.wk
  clear hG hK hgr G0 K1
  by_cases hkl : k < ws.length
  ·have hk0 : (k : Int) < (ws.length : Int) := by omega
   have HSN := Lib.hid (startN_zero ws s)
   go_wp2_with fail
   go_loopw [9, 10] (fun f i wx => ∃ j : Nat, i = .int .i64 j ∧ j ≤ nh ∧ f = .int .i64 (startN ws s j k) ∧ wx = wr) (fun _ i _ => nh - (intOf i).toNat)
   case atStart => exact ⟨0, rfl, by omega, by rw [HSN.out], rfl⟩
   case round =>
    obtain ⟨j, rfl, hj, rfl, rfl⟩ := hrel
    by_cases hjl : j < nh
    ·have hj0 : (j : Int) < (nh : Int) := by omega
     obtain ⟨x, hx⟩ : ∃ x, (headsN ws)[j]? = some x := ⟨_, List.getElem?_eq_getElem (by have := HNH.out; simp [headsL] at this; omega)⟩
     have hxl : (headsL ws)[j]? = some (x : Int) := by unfold headsL; rw [List.getElem?_map, hx]; rfl
     obtain ⟨y, hy⟩ : ∃ y, s.river[j]? = some y := ⟨_, List.getElem?_eq_getElem (by have := HO.out.r; have := HNH.out; simp [headsL] at this; omega)⟩
     obtain ⟨bh, oh, rfl, hbh, q1⟩ := H1.out.int hxl
     have hjr : (j : Int) < (s.river.length : Int) := by have := (List.getElem?_eq_some_iff.1 hy).1; omega
     have y1 : wr.cell? ⟨bh, oh + j, none⟩ = some (.int .i64 x) := HGR.out.cell q1 (fun hm => by have := (HB.out bh rfl).1; simp at hm; omega)
     obtain ⟨br, or, rfl, hbr, q2⟩ := (HS.out.parts.1.up KK.out.bel.size KK.out.bel).int hy
     have x1 := KK.out.r
     have HST := Lib.hid (startN_succ s hx hy k)
     clear q1 hx hxl hy
     by_cases hxk : x = k
     ·have hbq : ((x : Int) == (k : Int)) = true := by rw [beq_iff_eq]; omega
      go_wp2_with fail
      go_roundw
      case rel => exact ⟨j + 1, by go_num, by omega, by rw [HST.out, if_pos hxk.symm], trivial⟩
      case measure => show nh - ((j : Int) + 1).toNat < nh - (j : Int).toNat; omega
     ·have hbq : ((x : Int) == (k : Int)) = false := by rw [beq_eq_false_iff_ne]; omega
      go_wp2_with fail
      go_roundw
      case rel => exact ⟨j + 1, by go_num, by omega, by rw [HST.out, if_neg (fun e => hxk e.symm)], trivial⟩
      case measure => show nh - ((j : Int) + 1).toNat < nh - (j : Int).toNat; omega
    ·have hj0 : (nh : Int) ≤ (j : Int) := by omega
     obtain rfl : j = nh := by omega
     rw [startN_all ws s (by have := HNH.out; simp [headsL] at this; omega)]
     obtain ⟨r, hr⟩ := FstIs.exists_ (fun o : Ou => o.into) (outs ws) (k : Int)
     have HR := Lib.hid hr
     have HTS := Lib.hid (t_start HW.out s hr)
     clear hr
     go_wp2_with fail
     refine (C2.out k r HR.out _ KK.out.bel).mono ?_
     rintro e w2 ⟨rfl, b2⟩
     have KK2 := Lib.hid (KK.out.below b2)
     have HG2 := Lib.hid (HG.out.below b2)
     have HGR2 : Hid (GrownL [w.heap.size + 1 + 1 + 1] w1 w2) := Lib.hid (HGR.out.trans (GrownL.of_below b2))
     clear b2
     have hrj : (r = -1) ∨ 0 ≤ r := by rcases HTS.out with ⟨h, -⟩ | ⟨j, h, -⟩ <;> omega
     go_upto_if 46 with fail
     go_cut [9] (fun f wx => f = .int .i64 ((flowTo ws s (pre ws k)).t k) ∧ wx = w2)
     case first =>
      rcases HTS.out with ⟨rfl, ht0⟩ | ⟨j, rfl, hj1, ht0⟩
      ·have HT0 := Lib.hid ht0
       clear ht0
       go_wp2_with fail
       go_meet
       case rel => exact ⟨by rw [HT0.out], rfl⟩
      ·obtain ⟨U1, d1, rfl, -⟩ := HG2.out.o1.form
       have hl1 := thr_len ws s (pre ws k) (pre_le ws k)
       obtain ⟨y, hy⟩ : ∃ y, (flowTo ws s (pre ws k)).thr[j]? = some y := ⟨_, List.getElem?_eq_getElem (by omega)⟩
       have R1 := Lib.hid (HG2.out.o1.rr EI (by rw [hl1]; have := pre_le ws k; have := HW.out.tot; show pre ws k ≤ 1000000000000000; omega))
       rw [hl1] at HG2 R1
       obtain ⟨b, o, rfl, hb, q1⟩ := R1.out.int hy
       have y0 := HG2.out.c1
       have HT0 : Hid ((flowTo ws s (pre ws k)).t k = y) := Lib.hid (by rw [ht0, List.getD_eq_getElem?_getD, hy]; rfl)
       have hj0 : (j : Int) < (pre ws k : Int) := by omega
       have hjn : (0 : Int) ≤ (j : Int) := by omega
       obtain ⟨pk, hpk⟩ : ∃ pk, pre ws k = pk := ⟨_, rfl⟩
       have HPK := Lib.hid hpk
       rw [hpk] at y0 hj0
       clear ht0 hy hl1 hpk
       go_wp2_with fail
       go_meet
       case rel => exact ⟨by rw [HT0.out], rfl⟩
     case rest =>
      obtain ⟨rfl, rfl⟩ := hcut
      obtain ⟨os, hos⟩ : ∃ os, ws[k]? = some os := ⟨_, List.getElem?_eq_getElem hkl⟩
      have HOS := Lib.hid hos
      have x0 := KK2.out.wk
      clear hos KK HG HGR HTS
      go_wp2_with fail
      go_loopw [7, 9, 12] (fun n f i wx => ∃ (j : Nat) (u1 : Value), i = .int .i64 j ∧ j ≤ os.length ∧ n = .int .i64 ((pre ws k + j : Nat) : Int) ∧ f = .int .i64 ((flowTo ws s (pre ws k + j)).t k) ∧ FlO (w.heap.size + 1 + 1 + 1) w1.heap.size u1 u2 (flowTo ws s (pre ws k + j)).thr (tailsTo ws s k) (flowTo ws s (pre ws k + j)).lost wx ∧ FlK w (.slice A ws.length c) (.slice A1 s.river.length c1) (.slice A2 s.boards.length c2) (.slice A3 s.leaks.length c3) (.slice A4 s.losses.length c4) wx ∧ GrownL [w.heap.size + 1 + 1 + 1] w1 wx) (fun _ _ i _ => os.length - (intOf i).toNat)
      case atStart => exact ⟨0, _, rfl, by omega, rfl, rfl, HG2.out, KK2.out, HGR2.out⟩
      case round =>
       obtain ⟨j, u1, rfl, hj, rfl, rfl, hG, hK, hgr⟩ := hrel
       have HG := Lib.hid hG
       have KK := Lib.hid hK
       have HGR := Lib.hid hgr
       have x0 := hK.wk
       have x1 := hK.r
       have x2 := hK.b
       have x3 := hK.k
       have x4 := hK.l
       clear hG hK hgr HG2 KK2 HGR2
       obtain ⟨b, o, hA, hbB, u, hu, A1_, c1_, hu2, hou⟩ := rk_at H.out HOS.out
       subst hA hu2
       replace hu := (KK.out.bel.cell (p := ⟨b, o + k, none⟩) hbB).trans hu
       by_cases hjl : j < os.length
       ·have hj0 : (j : Int) < (os.length : Int) := by omega
        obtain ⟨p, hp⟩ : ∃ p, os[j]? = some p := ⟨_, List.getElem?_eq_getElem hjl⟩
        obtain ⟨b1, o1, hA1, hb1, hc1⟩ := ro_at hou hp
        subst hA1
        have q0 := (KK.out.bel.cell (p := ⟨b1, _, none⟩) hb1).trans hc1.id
        have q1 := (KK.out.bel.cell (p := ⟨b1, _, none⟩) hb1).trans hc1.into
        have q2 := (KK.out.bel.cell (p := ⟨b1, _, none⟩) hb1).trans hc1.pv
        have q3 := (KK.out.bel.cell (p := ⟨b1, _, none⟩) hb1).trans hc1.k0
        have q4 := (KK.out.bel.cell (p := ⟨b1, _, none⟩) hb1).trans hc1.k1
        have q5 := (KK.out.bel.cell (p := ⟨b1, _, none⟩) hb1).trans hc1.s0
        have q6 := (KK.out.bel.cell (p := ⟨b1, _, none⟩) hb1).trans hc1.s1
        have hps := hc1.ps
        have hpl := allP_get HOS.out hp
        have hnl := pre_lt HOS.out hjl
        have HPL := Lib.hid hpl
        have HS1 := Lib.hid (flowTo_succ s hpl)
        clear hp hc1
        obtain ⟨n, hn⟩ : ∃ n, pre ws k + j = n := ⟨_, rfl⟩
        have HN := Lib.hid hn
        rw [hn] at hpl hnl HPL HG HS1 ⊢
        obtain ⟨bd, lk, ls, cp, hbd, hlk, hls, hcp, hbl, cp0, cp1, lk0, lk1, ls0, ls1, hcap, hlos⟩ := HO.out.at_ HW.out hpl
        have hfb := (FB.flow HO.out HW.out n (by omega))
        have ht0 := hfb.t k
        have hl0 := hfb.l0
        have hl1 := hfb.l1
        have hthl := thr_len ws s n (by omega)
        have h60 := HW.out.tot
        have hl1' : (flowTo ws s n).lost ≤ 100000000 := by rw [hthl] at hl1; omega
        obtain ⟨F, hF⟩ : ∃ F, flowTo ws s n = F := ⟨_, rfl⟩
        have HF := Lib.hid hF
        rw [hF] at ht0 hl0 hl1' hthl HG HS1 ⊢
        obtain ⟨T, hT⟩ : ∃ T, F.t k = T := ⟨_, rfl⟩
        have HTT := Lib.hid hT
        rw [hT] at ht0 ⊢
        clear hF hT hl1 hfb hn hpl
        obtain ⟨br, or, rfl, hbr, y1⟩ := HS.out.parts.2.1.int hbd
        obtain ⟨bk, ok, rfl, hbk, y2⟩ := HS.out.parts.2.2.1.int hlk
        obtain ⟨bl, ol, rfl, hbll, y3⟩ := HS.out.parts.2.2.2.int hls
        have hn1 : (n : Int) < (s.boards.length : Int) := by have := HO.out.b; omega
        have hn2 : (n : Int) < (s.leaks.length : Int) := by have := HO.out.k; omega
        have hn3 : (n : Int) < (s.losses.length : Int) := by have := HO.out.l; omega
        have hjm : (j : Int) ≤ 60 := by have := HN.out; omega
        have hnm : (n : Int) ≤ 60 := by omega
        have hbl0 : (bd : Int) < (p.ps.length : Int) := by have h : bd < p.ps.length := hbl; omega
        have hpp : ∃ bp op, p.pa = some ⟨bp, op, none⟩ ∧ bp < w.heap.size ∧ w.cell? ⟨bp, op + bd, none⟩ = some (.int .i64 cp) := by
         obtain ⟨A', c', e, -, hc⟩ := hps
         simp only [Value.slice.injEq] at e
         obtain ⟨bp, op, e1, e2, e3⟩ := hc (by omega)
         exact ⟨bp, op, e.1.trans e1, e2, e3 bd cp hcp⟩
        obtain ⟨bp, op, hpa, hbp, y4⟩ := hpp
        have HPA := Lib.hid hpa
        have HY := Lib.hid (fun W (hb : Below w.heap.size w W) => And.intro ((hb.cell (p := ⟨br, or + n, none⟩) hbr).trans y1) (And.intro ((hb.cell (p := ⟨bk, ok + n, none⟩) hbk).trans y2) (And.intro ((hb.cell (p := ⟨bl, ol + n, none⟩) hbll).trans y3) ((hb.cell (p := ⟨bp, op + bd, none⟩) hbp).trans y4))))
        clear hps hpa hbp hbd hlk hls hcp hbr hbk hbll hou
        go_upto_region 20 with fail
        obtain ⟨WA, hWA⟩ : ∃ WA, wr.alloc (.cells #[.int .i64 p.id, .int .i64 p.into, .slice p.pa p.ps.length p.pc, .int .i64 p.k0, .int .i64 p.k1, .int .i64 p.s0, .int .i64 p.s1] 42) = WA := ⟨_, rfl⟩
        have bA : Below wr.heap.size wr WA := by rw [← hWA]; exact (Below.refl _ _).alloc (Nat.le_refl _) _
        have a2 : WA.cell? ⟨wr.heap.size, 2, none⟩ = some (.slice (some ⟨bp, op, none⟩) p.ps.length p.pc) := by rw [← hWA, ← HPA.out]; simp [go_sem]
        rw [hWA]
        replace HG := Lib.hid (HG.out.below bA)
        replace KK := Lib.hid (KK.out.below bA)
        have HWR : Hid (w.heap.size + 4 ≤ wr.heap.size) := Lib.hid (Nat.le_trans HSZ.out HGR.out.size)
        replace HGR : Hid (GrownL [w.heap.size + 1 + 1 + 1] w1 WA) := Lib.hid (HGR.out.trans (GrownL.of_below bA))
        clear x0 x1 x2 x3 x4 q0 q1 q2 q3 q4 q5 q6 y1 y2 y3 y4 hu hWA bA
        obtain ⟨z1, z2, z3, z4⟩ := HY.out _ KK.out.bel
        have x0 := KK.out.wk
        have x1 := KK.out.r
        have x2 := KK.out.b
        have x3 := KK.out.k
        have x4 := KK.out.l
        obtain ⟨L, hL⟩ : ∃ L, min T ls = L := ⟨_, rfl⟩
        have HLL := Lib.hid hL
        go_cut [14] (fun x wx => x = .int .i64 L ∧ wx = WA)
        case first =>
         by_cases h : T ≤ ls
         ·obtain rfl : L = T := by omega
          go_wp2_with fail
          go_meet
          case rel => exact ⟨rfl, rfl⟩
         ·obtain rfl : L = ls := by omega
          go_wp2_with fail
          go_meet
          case rel => exact ⟨rfl, rfl⟩
        case rest =>
         obtain ⟨rfl, hwx⟩ := hcut
         rw [hwx]
         clear hwx
         have hL0 : 0 ≤ L := by omega
         have hL1 : L ≤ 1048576 := by omega
         have hL2 : L ≤ T := by omega
         have y2 := HG.out.n
         have y2f := HG.out.gl.f 2
         clear hL
         have w1' : IntKind.i64.wrap (T - L) = T - L := IntWalk.i64_in _ (by omega)
         have w2' : IntKind.i64.wrap (F.lost + L) = F.lost + L := IntWalk.i64_in _ (by omega)
         go_upto_region 23 with fail
         obtain ⟨X, hX⟩ : ∃ X, WA.setCell ⟨w.heap.size + 1 + 1 + 1, 2, none⟩ (.int .i64 (F.lost + L)) = X := ⟨_, rfl⟩
         have gX : GrownL [w.heap.size + 1 + 1 + 1] WA X := by rw [← hX]; exact GrownL.set _ _ _ (by simp)
         replace HG : Hid (FlO (w.heap.size + 1 + 1 + 1) w1.heap.size u1 u2 F.thr (tailsTo ws s k) (F.lost + L) X) := Lib.hid (by rw [← hX]; exact HG.out.setn _)
         replace KK := Lib.hid (KK.out.grown gX (by simp))
         have a2' := gX.cell a2 (by have := HWR.out; simp; omega)
         rw [hX]
         clear a2 x0 x1 x2 x3 x4 y2 y2f z1 z2 z3 z4 hX
         have x1 := KK.out.r
         have x2 := KK.out.b
         have x3 := KK.out.k
         obtain ⟨z1, z2, z3, z4⟩ := HY.out _ KK.out.bel
         replace HGR : Hid (GrownL [w.heap.size + 1 + 1 + 1] w1 X) := Lib.hid (HGR.out.trans gX)
         obtain ⟨M, hM⟩ : ∃ M, min (T - L) (cp + lk) = M := ⟨_, rfl⟩
         have HMM := Lib.hid hM
         have w3' : IntKind.i64.wrap (cp + lk) = cp + lk := IntWalk.i64_in _ (by omega)
         clear gX
         go_cut [15] (fun x wx => x = .int .i64 M ∧ ∃ nq, wx = X.drewN nq)
         case first =>
          by_cases h : T - L ≤ cp + lk
          ·obtain rfl : M = T - L := by omega
           go_quiet (fail)
           go_wp2_with fail
           go_meet
           case rel => exact ⟨rfl, _, rfl⟩
          ·obtain rfl : M = cp + lk := by omega
           go_quiet (fail)
           go_wp2_with fail
           go_meet
           case rel => exact ⟨rfl, _, rfl⟩
         case rest =>
          obtain ⟨rfl, nq, hwx⟩ := hcut
          rw [hwx]
          clear hwx
          obtain ⟨Y, hY⟩ : ∃ Y, X.drewN nq = Y := ⟨_, rfl⟩
          have bY : Below X.heap.size X Y := by rw [← hY]; exact below_drewN (Below.refl _ _) _
          replace HG := Lib.hid (HG.out.below bY)
          replace KK := Lib.hid (KK.out.below bY)
          replace HGR : Hid (GrownL [w.heap.size + 1 + 1 + 1] w1 Y) := Lib.hid (HGR.out.trans (GrownL.of_below bY))
          have hM0 : 0 ≤ M := by omega
          have hM1 : M ≤ T - L := by omega
          have w4' : IntKind.i64.wrap (T - L - M) = T - L - M := IntWalk.i64_in _ (by omega)
          rw [hY]
          obtain ⟨U1, d1, rfl, -⟩ := HG.out.o1.form
          have y0 := HG.out.c1
          have y0f := HG.out.gl.f 0
          rw [hthl] at HG y0
          have R1 : Hid (Y.ownsRow w1.heap.size 3 1 (.slice U1 n d1) n (F.thr.flatMap encI)) := Lib.hid (by have := HG.out.o1; unfold OwnG at this; rwa [hthl] at this)
          clear hM hY bY x1 x2 x3 z1 z2 z3 z4 a2'
          go_wp2_with (at_builtin; refine wpList_append_own_at _ rfl _ _ 25 rfl w1.heap.size 3 i0 (.int .i64 0) 1 8 Try.underlying25 hz0 hi1 hi2 hi3 rfl (by decide) _ n _ rfl (R1.out.alloc _) ⟨Y.heap.size, 0, none⟩ 1 1 [.int .i64 M] rfl rfl (fun i u hi => one_news Y (.int .i64 M) 3 i u hi) (fun u hu => one_one M u hu) ?c3 ?c4 ?c5 ?_)
          case c3 => unfold maxLen; omega
          case c4 => omega
          case c5 => have := HGR.out.size; first | (simp <;> omega) | omega
          intro v4 w4 hown4 hgrow4 _ hat4
          have O4 : Hid (OwnG encI 1 3 w1.heap.size v4 (F.thr ++ [M]) w4) := Lib.hid (own_snoc hown4 hthl)
          obtain ⟨A4_, c4_, rfl, -⟩ := O4.out.form
          obtain ⟨n4, hn4⟩ : ∃ n, (F.thr ++ [M]).length = n := ⟨_, rfl⟩
          rw [hn4] at O4 hat4 ⊢
          have gr : GrownL (Value.slice U1 n d1).ownBlock.toList Y w4 := (GrownL.of_below ((Below.refl Y.heap.size Y).alloc (Nat.le_refl _) (.cells #[.int .i64 M] 3))).trans (GrownL.of_row hgrow4)
          have hlt := fun b (hb : b ∈ (Value.slice U1 n d1).ownBlock.toList) => (HG.out.o1.lt b (by simpa using hb))
          have hn3_ : w.heap.size + 1 + 1 + 1 ∉ (Value.slice U1 n d1).ownBlock.toList := fun hm => by have := (hlt _ hm).1; have := HSZ.out; omega
          have y0' := gr.cell y0 hn3_
          have y0f' := (World.frozen?_of_block (a := ⟨w.heap.size + 1 + 1 + 1, 0, none⟩) (gr.block _ HG.out.gl.gl hn3_)).trans y0f
          obtain ⟨Z, hZ⟩ : ∃ Z, w4.setCell ⟨w.heap.size + 1 + 1 + 1, 0, none⟩ (.slice A4_ n4 c4_) = Z := ⟨_, rfl⟩
          have gs : GrownL [w.heap.size + 1 + 1 + 1] w4 Z := by rw [← hZ]; exact GrownL.set _ _ _ (by simp)
          have HG2 := Lib.hid (HG.out.app1 gr O4.out (hat4.imp (fun h => h) (fun h => ⟨_, h, by simp⟩)))
          rw [hZ] at HG2
          have KK2 := Lib.hid ((KK.out.grown gr (fun b hb => by have := (hlt b hb).1; have := HSZ.out; omega)).grown gs (by simp))
          have HGR2 : Hid (GrownL [w.heap.size + 1 + 1 + 1] w1 Z) := Lib.hid (HGR.out.newer ((gr.mono (bs' := (w.heap.size + 1 + 1 + 1) :: (Value.slice U1 n d1).ownBlock.toList) (by simp +contextual)).trans (gs.mono (by simp))) (fun b hb => (hlt b hb).1))
          have HZ := Lib.hid hZ
          clear hn4 gr hlt hn3_ gs hown4 hgrow4 hat4 y0 y0f hZ HG KK HGR
          go_wp2_with fail
          rw [HZ.out]
          have e1 : lostS s F ⟨n, k, j, p⟩ = L := by rw [← HLL.out, ← HTT.out]; unfold lostS; rw [hlos]
          have e2 : thrS s F ⟨n, k, j, p⟩ = M := by rw [← HMM.out, ← HTT.out]; unfold thrS; rw [e1, hcap]
          have e3 := t_step HW.out s HPL.out
          rw [HF.out, e1, e2] at e3
          have E3 : Hid ((flowTo ws s (n + 1)).t k = T - L - M) := Lib.hid (by rw [← HTT.out]; exact e3)
          have E1 : Hid ((flowTo ws s (n + 1)).thr = F.thr ++ [M] ∧ (flowTo ws s (n + 1)).lost = F.lost + L) := Lib.hid (by
           rw [HS1.out]
           exact ⟨by show F.thr ++ [thrS s F ⟨n, k, j, p⟩] = _; rw [e2], by show F.lost + lostS s F ⟨n, k, j, p⟩ = _; rw [e1]⟩)
          clear e1 e2 e3
          go_roundw
          case rel => exact ⟨j + 1, _, by go_num, by omega, by rw [← Nat.add_assoc, HN.out]; go_num, by rw [← Nat.add_assoc, HN.out, E3.out], by rw [← Nat.add_assoc, HN.out, E1.out.1, E1.out.2]; exact HG2.out, KK2.out, HGR2.out⟩
          case measure => show os.length - ((j : Int) + 1).toNat < os.length - (j : Int).toNat; omega
       ·have hj0 : (os.length : Int) ≤ (j : Int) := by omega
        obtain rfl : j = os.length := by omega
        have hps := pre_succ HOS.out
        rw [← hps] at HG ⊢
        have HTE : Hid ((flowTo ws s (pre ws (k + 1))).t k = (flowF ws s).t k) := Lib.hid (t_end HW.out s k).symm
        have hfb := ((FB.flow HO.out HW.out (pre ws (k + 1)) (pre_le ws _))).t k
        have HLT : Hid ((tailsTo ws s k).length = k) := Lib.hid (by unfold tailsTo; rw [List.length_map, List.length_range])
        have HTL := Lib.hid (tailsTo_succ ws s k)
        obtain ⟨T, hT⟩ : ∃ T, (flowTo ws s (pre ws (k + 1))).t k = T := ⟨_, rfl⟩
        rw [hT] at hfb ⊢
        have HTT : Hid ((flowF ws s).t k = T) := Lib.hid (HTE.out.symm.trans hT)
        obtain ⟨U2, d2, rfl, -⟩ := HG.out.o2.form
        have y0 := HG.out.c2
        have y0f := HG.out.gl.f 1
        have hbase := HGR.out.size
        rw [HLT.out] at HG y0
        have R1 : Hid (wr.ownsRow w1.heap.size 3 1 (.slice U2 k d2) k ((tailsTo ws s k).flatMap encI)) := Lib.hid (by have := HG.out.o2; unfold OwnG at this; rwa [HLT.out] at this)
        clear hou hps hT hjl
        go_wp2_with (at_builtin; refine wpList_append_own_at _ rfl _ _ 25 rfl w1.heap.size 3 i0 (.int .i64 0) 1 8 Try.underlying25 hz0 hi1 hi2 hi3 rfl (by decide) _ k _ rfl (R1.out.alloc _) ⟨wr.heap.size, 0, none⟩ 1 1 [.int .i64 T] rfl rfl (fun i u hi => one_news wr (.int .i64 T) 3 i u hi) (fun u hu => one_one T u hu) ?c3 ?c4 ?c5 ?_)
        case c3 => unfold maxLen; omega
        case c4 => omega
        case c5 => have := HGR.out.size; first | (simp <;> omega) | omega
        intro v4 w4 hown4 hgrow4 _ hat4
        have O4 : Hid (OwnG encI 1 3 w1.heap.size v4 (tailsTo ws s k ++ [T]) w4) := Lib.hid (own_snoc hown4 HLT.out)
        obtain ⟨A4_, c4_, rfl, -⟩ := O4.out.form
        obtain ⟨n4, hn4⟩ : ∃ n, (tailsTo ws s k ++ [T]).length = n := ⟨_, rfl⟩
        rw [hn4] at O4 hat4 ⊢
        have gr : GrownL (Value.slice U2 k d2).ownBlock.toList wr w4 := (GrownL.of_below ((Below.refl wr.heap.size wr).alloc (Nat.le_refl _) (.cells #[.int .i64 T] 3))).trans (GrownL.of_row hgrow4)
        have hlt := fun b (hb : b ∈ (Value.slice U2 k d2).ownBlock.toList) => (HG.out.o2.lt b (by simpa using hb))
        have hn3_ : w.heap.size + 1 + 1 + 1 ∉ (Value.slice U2 k d2).ownBlock.toList := fun hm => by have := (hlt _ hm).1; have := HSZ.out; omega
        have y0' := gr.cell y0 hn3_
        have y0f' := (World.frozen?_of_block (a := ⟨w.heap.size + 1 + 1 + 1, 1, none⟩) (gr.block _ HG.out.gl.gl hn3_)).trans y0f
        obtain ⟨Z, hZ⟩ : ∃ Z, w4.setCell ⟨w.heap.size + 1 + 1 + 1, 1, none⟩ (.slice A4_ n4 c4_) = Z := ⟨_, rfl⟩
        have gs : GrownL [w.heap.size + 1 + 1 + 1] w4 Z := by rw [← hZ]; exact GrownL.set _ _ _ (by simp)
        have HG2 := Lib.hid (HG.out.app2 gr O4.out (hat4.imp (fun h => h) (fun h => ⟨_, h, by simp⟩)))
        rw [hZ] at HG2
        have KK2 := Lib.hid ((KK.out.grown gr (fun b hb => by have := (hlt b hb).1; have := HSZ.out; omega)).grown gs (by simp))
        have HGR2 : Hid (GrownL [w.heap.size + 1 + 1 + 1] w1 Z) := Lib.hid (HGR.out.newer ((gr.mono (bs' := (w.heap.size + 1 + 1 + 1) :: (Value.slice U2 k d2).ownBlock.toList) (by simp +contextual)).trans (gs.mono (by simp))) (fun b hb => (hlt b hb).1))
        have HZ := Lib.hid hZ
        clear hn4 gr hlt hn3_ gs hown4 hgrow4 hat4 y0 y0f hZ HG KK HGR
        go_wp2_with fail
        rw [HZ.out]
        go_roundw
        case rel => exact ⟨k + 1, _, _, by go_num, by omega, rfl, by rw [HTL.out, HTT.out]; exact HG2.out, KK2.out, HGR2.out⟩
        case measure => show ws.length - ((k : Int) + 1).toNat < ws.length - (k : Int).toNat; omega
  ·have hk0 : (ws.length : Int) ≤ (k : Int) := by omega
   obtain rfl : k = ws.length := by omega
   rw [show pre ws ws.length = total ws from rfl] at HG
   obtain ⟨U1, d1, rfl, -⟩ := HG.out.o1.form
   obtain ⟨U2, d2, rfl, -⟩ := HG.out.o2.form
   obtain ⟨n1, hn1⟩ : ∃ n, (flowTo ws s (total ws)).thr.length = n := ⟨_, rfl⟩
   obtain ⟨n2, hn2⟩ : ∃ n, (tailsTo ws s ws.length).length = n := ⟨_, rfl⟩
   obtain ⟨L, hL⟩ : ∃ L, (flowTo ws s (total ws)).lost = L := ⟨_, rfl⟩
   rw [hn1, hn2, hL] at HG
   have HL := Lib.hid hL
   have x1 := HG.out.c1
   have x2 := HG.out.c2
   have x3 := HG.out.n
   have r0 := KK.out.z0
   have r1 := KK.out.z1
   have r2 := KK.out.z2
   have z0 := KK.out.fz 0
   have z1 := KK.out.fz 1
   have z2 := KK.out.fz 2
   clear hn1 hn2 hL
   go_wp2_with fail
   obtain ⟨X, hX⟩ : ∃ X, ((wr.setCell ⟨w.heap.size + 1 + 1, 0, none⟩ (.slice U1 n1 d1)).setCell ⟨w.heap.size + 1 + 1, 1, none⟩ (.slice U2 n2 d2)).setCell ⟨w.heap.size + 1 + 1, 2, none⟩ (.int .i64 L) = X := ⟨_, rfl⟩
   obtain ⟨p0, p1, p2, gx⟩ := set3 r0 r1 r2 (.slice U1 n1 d1) (.slice U2 n2 d2) (.int .i64 L)
   rw [hX] at p0 p1 p2 gx ⊢
   clear hX
   refine bodyPost_ret (v := .agg #[.slice U1 n1 d1, .slice U2 n2 d2, .int .i64 L]) (by simp [results, Try.results118, go_sem, p0, p1, p2]) rfl ?_
   have hs1 := HGR.out.size
   have hs0 := HSZ.out
   have ow : ∀ u l, OwnG encI 1 3 w1.heap.size u l wr → OwnG encI 1 3 w.heap.size u l X := fun u l h => (h.grown gx (fun b hb hm => by have := (h.lt b hb).1; simp at hm; omega)).low (by omega)
   exact ⟨_, _, by rw [← HL.out]; rfl, ow _ _ HG.out.o1, ow _ _ HG.out.o2, KK.out.bel.trans (gx.below (fun b hb => by simp at hb; omega) KK.out.bel.size)⟩
end Go.Proofs.Ytkoacclbempmdaa

/- Contract of the specification's water. -/
namespace Go.Proofs.Ytkoacclbempmdaa
open Go.RowKit

set_option maxHeartbeats 800000 in
theorem within_same (n lo hi : Int) (w : World) : Calls Try.prog 129 #[.int .i64 n, .int .i64 lo, .int .i64 hi] w fun e w' => e = .returned (.bool (inB lo hi n)) ∧ w = w' := by
 have HV : Hid (∀ x, x = (inB lo hi n) → Ending.returned (.bool x) = .returned (.bool (inB lo hi n))) := Lib.hid fun x h => by rw [h]
 have hc : (lo ≤ n) ∨ (n < lo) := by omega
 generalize hb : (inB lo hi n) = r at HV ⊢
 have HB := Lib.hid hb
 clear hb
 rcases hc with h0 | h0
 all_goals
  go_enter Try.func129, Try.ntmps129
  go_wp2_with fail
  go_ret
  refine ⟨HV.out _ ?_, ?_⟩
  ·rw [← HB.out, Bool.eq_iff_iff]
   simp [inB]
   try omega
  ·rfl
theorem rl_in {base : Nat} {v u : Value} {ws : Wk} {B : Nat} {w W : World} (h : OwnG encO 7 42 base v (outs ws) W) (hk : RK B u ws w) (hb : Below B w W) (hB : B ≤ W.heap.size) (ht : total ws ≤ 100000) : RO W.heap.size v (outs ws) W := by
 refine RO.of_rr (h.rr EO (by rw [outs_len]; show total ws ≤ 1000000000000000; omega)) (fun x hx => (outs_ps hk x hx).up hB hb)

set_option maxHeartbeats 16000000 in
set_option maxRecDepth 1000000 in
theorem rwater_any (A : Option Addr) (c : Nat) (wv : Value) (ws : Wk) (s : Wa) (d : Int) (w : World) (h : RK w.heap.size (.slice A ws.length c) ws w) (hs : RWa w.heap.size wv s w) (hw : WOk ws) (hd : (WaOk ws s ∧ d = 0) ∨ (¬ WaOk ws s ∧ d = 1)) :
  Calls Try.prog 119 #[.agg #[.slice A ws.length c], wv] w fun e w' => e = .returned (.int .i64 d) ∧ Below w.heap.size w w' := by
 obtain ⟨A1, c1, A2, c2, A3, c3, A4, c4, rfl⟩ := hs.form
 have H := Lib.hid h
 have HS := Lib.hid hs
 have HW := Lib.hid hw
 rw [waOk_iff] at hd
 have HBB := Lib.hid hd
 have ht : total ws ≤ 100000 := by have := hw.tot; omega
 have hln : ws.length ≤ 100000 := by have := hw.len; omega
 have C1 := Lib.hid fun W (hb : Below w.heap.size w W) => routlets_any A ws.length c ws W (h.up hb.size hb) ht
 have C2 := Lib.hid fun W (hb : Below w.heap.size w W) => rheads_any A ws.length c ws W (h.up hb.size hb) ht hln
 have S0 := Lib.hid (WW.new w (.slice A ws.length c) (.slice A1 s.river.length c1) (.slice A2 s.boards.length c2) (.slice A3 s.leaks.length c3) (.slice A4 s.losses.length c4))
 clear h hs hw hd
 go_enter Try.func119, Try.ntmps119
 go_wp2_with fail
 refine (C1.out _ S0.out.bel).mono ?_
 rintro e w2 ⟨lv, rfl, hlv, b1⟩
 have S2 := Lib.hid (S0.out.below b1)
 have RL := Lib.hid (rl_in hlv (H.out.up S0.out.bel.size S0.out.bel) b1 b1.size ht)
 obtain ⟨Al, cl, rfl, -⟩ := hlv.form
 have hol := outs_len ws
 rw [hol] at RL ⊢
 clear hlv b1 ht hln
 have x0 := S2.out.wk
 have x1 := S2.out.r
 have x2 := S2.out.b
 have x3 := S2.out.k
 have x4 := S2.out.l
 obtain ⟨nh, hnh⟩ : ∃ nh, (headsL ws).length = nh := ⟨_, rfl⟩
 obtain ⟨nt, hnt⟩ : ∃ nt, total ws = nt := ⟨_, rfl⟩
 have HNH := Lib.hid hnh
 have HNT := Lib.hid hnt
 have HCH : Hid (∀ W, BelS w2 W → Calls Try.prog 103 #[.agg #[.slice A ws.length c]] W fun e w' => ∃ A' c', e = .returned (.slice A' nh c') ∧ Below W.heap.size W w') := Lib.hid fun W hb => (C2.out W (S2.out.bel.trans (hb.b.mono S2.out.bel.size))).mono fun e w' ⟨v, he, ho, hb'⟩ => by
  obtain ⟨A', c', hv, -⟩ := ho.form
  exact ⟨A', c', by rw [he, hv, hnh], hb'⟩
 rw [hnt] at RL ⊢
 clear hnh hnt hol C1 C2
 go_upto_region 2 with fail
 refine wp_region_held_drew (S := BelS w2) (by kernel_rfl) (BelS.drew0 _) (fun J0 => ?_)
 have KK1 := Lib.hid fun (w_ : World) (hSw : BelS _ w_) => And.intro (hSw.c x1) (And.intro (hSw.c x2) (And.intro (hSw.c x3) (And.intro (hSw.c x4) (hSw.c x0))))
 refine tk KK1 0 14 J0 ?_
 try simp only [aS]
 refine tk KK1 1 15 J0 ?_
 try simp only [aS]
 refine tk KK1 2 16 J0 ?_
 try simp only [aS]
 refine tk KK1 3 17 J0 ?_
 try simp only [aS]
 refine wpAnyH_ready (rs := [4]) (by kernel_rfl) (by simp) ?_
 refine AllReadyH.cons rfl (fun K hK => ?_) AllReadyH.nil
 go_simp
 refine (HCH.out _ J0).mono ?_
 rintro e wq1 ⟨Ah, ch, rfl, hq1⟩
 have J1 := J0.below hq1
 clear hq1
 refine hK.out _ _ J1 (fun _ => ?_)
 clear hK K
 try simp only [aS]
 refine tk KK1 5 19 J1 ?_
 try simp only [aS]
 by_cases h0 : s.river.length = nh
 ·have h0b : ((s.river.length : Int) != (nh : Int)) = false := (neqB _ _).2.2 h0
  refine tk KK1 6 20 J1 ?_
  try simp only [aS]
  refine tk KK1 7 21 J1 ?_
  try simp only [aS]
  refine tk KK1 8 22 J1 ?_
  try simp only [aS]
  refine tk KK1 9 23 J1 ?_
  try simp only [aS]
  refine tk KK1 10 24 J1 ?_
  try simp only [aS]
  refine tk KK1 11 25 J1 ?_
  try simp only [aS]
  refine tk KK1 12 26 J1 ?_
  try simp only [aS]
  by_cases h1 : s.boards.length = nt
  ·have h1b : ((s.boards.length : Int) != (nt : Int)) = false := (neqB _ _).2.2 h1
   refine tk KK1 13 27 J1 ?_
   try simp only [aS]
   refine tk KK1 14 28 J1 ?_
   try simp only [aS]
   refine tk KK1 15 29 J1 ?_
   try simp only [aS]
   refine tk KK1 16 30 J1 ?_
   try simp only [aS]
   refine tk KK1 17 31 J1 ?_
   try simp only [aS]
   refine tk KK1 18 32 J1 ?_
   try simp only [aS]
   refine tk KK1 19 33 J1 ?_
   try simp only [aS]
   refine tk KK1 20 34 J1 ?_
   try simp only [aS]
   by_cases h2 : s.leaks.length = nt
   ·have h2b : ((s.leaks.length : Int) != (nt : Int)) = false := (neqB _ _).2.2 h2
    refine tk KK1 21 35 J1 ?_
    try simp only [aS]
    refine tk KK1 22 36 J1 ?_
    try simp only [aS]
    refine tk KK1 23 37 J1 ?_
    try simp only [aS]
    refine tk KK1 24 38 J1 ?_
    try simp only [aS]
    refine tk KK1 25 39 J1 ?_
    try simp only [aS]
    refine tk KK1 26 40 J1 ?_
    try simp only [aS]
    refine tk KK1 27 41 J1 ?_
    try simp only [aS]
    refine tk KK1 28 42 J1 ?_
    try simp only [aS]
    by_cases h3 : s.losses.length = nt
    ·have h3b : ((s.losses.length : Int) != (nt : Int)) = false := (neqB _ _).2.2 h3
     refine tk KK1 29 43 J1 ?_
     try simp only [aS]
     refine tk KK1 30 44 J1 ?_
     try simp only [aS]
     refine wpAnyH_done (by kernel_rfl) ?_ _
     have S3 := Lib.hid (S2.out.below (BelS.b J1))
     have RL := Lib.hid (RL.out.up (BelS.b J1).size (BelS.b J1))
     obtain ⟨w3, hw3⟩ : ∃ w3, wq1 = w3 := ⟨_, rfl⟩
     rw [hw3] at S3 RL ⊢
     clear hw3 x0 x1 x2 x3 x4 J0 J1
     have HBB2 : Hid ((((∀ x ∈ s.river, inB 0 1048576 x = true) ∧ ∀ p ∈ allP ws, okW s p = true) ∧ d = 0) ∨ (¬ ((∀ x ∈ s.river, inB 0 1048576 x = true) ∧ ∀ p ∈ allP ws, okW s p = true) ∧ d = 1)) := Lib.hid (by have := HBB.out; rw [HNH.out, HNT.out] at this; exact this.imp (fun h => ⟨⟨h.1.2.2.2.2.1, h.1.2.2.2.2.2⟩, h.2⟩) (fun h => ⟨fun hx => h.1 ⟨h0, h1, h2, h3, hx.1, hx.2⟩, h.2⟩))
     have HLN := Lib.hid (And.intro h1 (And.intro h2 h3))
     have hnr : (s.river.length : Int) ≤ 100000 := by have := HNH.out; have := headsL_len HW.out; omega
     have hntt : (nt : Int) ≤ 60 := by have := HNT.out; have := HW.out.tot; omega
     clear h0 h1 h2 h3 h0b h1b h2b h3b
     go_wp2_with fail
     go_loopw [6] (fun i wr => ∃ k : Nat, i = .int .i64 k ∧ k ≤ s.river.length ∧ (∀ j x, j < k → s.river[j]? = some x → inB 0 1048576 x = true) ∧ wr = w3) (fun i _ => s.river.length - (intOf i).toNat)
     case atStart => exact ⟨0, rfl, by omega, fun j x h => by omega, rfl⟩
     case round =>
      obtain ⟨k, rfl, hk, hok, rfl⟩ := hrel
      have HOK := Lib.hid hok
      have x1 := S3.out.r
      clear hok
      by_cases hkl : k < s.river.length
      ·have hk0 : (k : Int) < (s.river.length : Int) := by omega
       obtain ⟨x, hx⟩ : ∃ x, s.river[k]? = some x := ⟨_, List.getElem?_eq_getElem hkl⟩
       obtain ⟨b, o, rfl, hb, q0⟩ := (HS.out.parts.1.up S3.out.bel.size S3.out.bel).int hx
       have HX := Lib.hid hx
       clear hx
       go_wp2_with fail
       refine (within_same x 0 1048576 _).mono ?_
       rintro e w4 ⟨rfl, rfl⟩
       by_cases hin : inB 0 1048576 x = true
       ·rw [hin]
        have HIN := Lib.hid hin
        clear hin
        go_wp2_with fail
        go_roundw
        case rel => exact ⟨k + 1, by go_num, by omega, fun j y hj hy => by
         rcases Nat.lt_or_ge j k with h | h
         ·exact HOK.out j y h hy
         ·obtain rfl : j = k := by omega
          rw [HX.out] at hy
          cases hy
          exact HIN.out, trivial⟩
        case measure => show s.river.length - ((k : Int) + 1).toNat < s.river.length - (k : Int).toNat; omega
       ·rw [Bool.not_eq_true] at hin
        have HF : Hid (d = 1) := Lib.hid (HBB2.out.elim (fun hx => by have := hx.1.1 x (List.mem_of_getElem? HX.out); rw [hin] at this; cases this) (·.2))
        rw [hin]
        clear hin
        go_wp2_with fail
        go_ret
        exact ⟨by rw [HF.out]; try rfl, S3.out.bel⟩
      ·have hk0 : (s.river.length : Int) ≤ (k : Int) := by omega
       obtain rfl : k = s.river.length := by omega
       go_wp2_with fail
       go_loopw [8] (fun i wx => ∃ k : Nat, i = .int .i64 k ∧ k ≤ nt ∧ (∀ j p, j < k → (allP ws)[j]? = some p → okW s p = true) ∧ WW w (.slice A ws.length c) (.slice A1 s.river.length c1) (.slice A2 s.boards.length c2) (.slice A3 s.leaks.length c3) (.slice A4 s.losses.length c4) wx ∧ RO wx.heap.size (.slice Al nt cl) (outs ws) wx) (fun i _ => nt - (intOf i).toNat)
       case atStart => exact ⟨0, rfl, by omega, fun j x h => by omega, S3.out, RL.out⟩
       case round =>
        obtain ⟨k, rfl, hk', hok, hS4, hRL⟩ := hrel
        have HOK2 := Lib.hid hok
        have S4 := Lib.hid hS4
        have RL4 := Lib.hid hRL
        clear hok hS4 hRL
        have x1 := S4.out.r
        have x2 := S4.out.b
        have x3 := S4.out.k
        have x4 := S4.out.l
        by_cases hkl : k < nt
        ·have hk0 : (k : Int) < (nt : Int) := by omega
         obtain ⟨p, hp⟩ := at_total (ws := ws) (n := k) (by rw [HNT.out]; exact hkl)
         have hpo := (outs_get hp).1
         obtain ⟨b1, o1, hA1, hb1, hc1⟩ := ro_at RL4.out hpo
         subst hA1
         have p2 : wr.cell? ⟨b1, o1 + k * 7 + 2, none⟩ = some (.slice p.o.pa p.o.ps.length p.o.pc) := hc1.pv
         have p3 := hc1.k0
         have p4 : wr.cell? ⟨b1, o1 + k * 7 + 3 + 1, none⟩ = some (.int .i64 p.o.k1) := hc1.k1
         have p5 := hc1.s0
         have p6 : wr.cell? ⟨b1, o1 + k * 7 + 5 + 1, none⟩ = some (.int .i64 p.o.s1) := hc1.s1
         have hpl := hc1.ps.fits
         have hpl0 : (p.o.ps.length : Int) ≤ 1000000000000000 := by unfold Fits at hpl; omega
         have hat := (allP_inv hp).1
         obtain ⟨bd, hbd⟩ : ∃ x, s.boards[k]? = some x := ⟨_, List.getElem?_eq_getElem (by have := HLN.out.1; omega)⟩
         obtain ⟨lk, hlk⟩ : ∃ x, s.leaks[k]? = some x := ⟨_, List.getElem?_eq_getElem (by have := HLN.out.2.1; omega)⟩
         obtain ⟨ls, hls⟩ : ∃ x, s.losses[k]? = some x := ⟨_, List.getElem?_eq_getElem (by have := HLN.out.2.2; omega)⟩
         obtain ⟨br, or, rfl, hbr, y1⟩ := (HS.out.parts.2.1.up S4.out.bel.size S4.out.bel).int hbd
         obtain ⟨bk, ok, rfl, hbk, y2⟩ := (HS.out.parts.2.2.1.up S4.out.bel.size S4.out.bel).int hlk
         obtain ⟨bl, ol, rfl, hbll, y3⟩ := (HS.out.parts.2.2.2.up S4.out.bel.size S4.out.bel).int hls
         have hn1 : (k : Int) < (s.boards.length : Int) := by have := HLN.out.1; omega
         have hn2 : (k : Int) < (s.leaks.length : Int) := by have := HLN.out.2.1; omega
         have hn3 : (k : Int) < (s.losses.length : Int) := by have := HLN.out.2.2; omega
         have HOW : Hid (okW s p = (inB 0 ((p.o.ps.length : Int) - 1) bd && (inB p.o.k0 p.o.k1 lk && inB p.o.s0 p.o.s1 ls))) := Lib.hid (by unfold okW; rw [hat, getD_of hbd, getD_of hlk, getD_of hls])
         have HP := Lib.hid hp
         have hwr1 : IntKind.i64.wrap ((p.o.ps.length : Int) - 1) = (p.o.ps.length : Int) - 1 := IntWalk.i64_in _ (by omega)
         obtain ⟨n, hn⟩ : ∃ n, p.o.ps.length = n := ⟨_, rfl⟩
         rw [hn] at p2 hpl0 hwr1 HOW
         obtain ⟨i1, hi1⟩ : ∃ i, inB 0 ((n : Int) - 1) bd = i := ⟨_, rfl⟩
         obtain ⟨i2, hi2⟩ : ∃ i, inB p.o.k0 p.o.k1 lk = i := ⟨_, rfl⟩
         obtain ⟨i3, hi3⟩ : ∃ i, inB p.o.s0 p.o.s1 ls = i := ⟨_, rfl⟩
         have C1 := Lib.hid fun W => within_same bd 0 ((n : Int) - 1) W
         have C2 := Lib.hid fun W => within_same lk p.o.k0 p.o.k1 W
         have C3 := Lib.hid fun W => within_same ls p.o.s0 p.o.s1 W
         rw [hi1] at C1 HOW
         rw [hi2] at C2 HOW
         rw [hi3] at C3 HOW
         clear hp hpo hc1 hbd hlk hls hat hpl hbr hbk hbll hn hi1 hi2 hi3 hb1
         go_wp2_with fail
         go_quiet ((go_at_call 129; exact Calls.quiet_of_same (flip_same (C1.out _))))
         obtain ⟨Y1, hY1⟩ : ∃ Y, wr.drewN nq = Y := ⟨_, rfl⟩
         have bY1 : Below wr.heap.size wr Y1 := by rw [← hY1]; exact below_drewN (Below.refl _ _) _
         rw [hY1]
         clear hY1
         replace x3 := BelS.c bY1 x3
         replace x4 := BelS.c bY1 x4
         replace p3 := BelS.c bY1 p3
         replace p4 := BelS.c bY1 p4
         replace p5 := BelS.c bY1 p5
         replace p6 := BelS.c bY1 p6
         replace y2 := BelS.c bY1 y2
         replace y3 := BelS.c bY1 y3
         go_wp2_with fail
         go_quiet ((go_at_call 129; exact Calls.quiet_of_same (flip_same (C2.out _))))
         obtain ⟨Y2, hY2⟩ : ∃ Y, Y1.drewN nq = Y := ⟨_, rfl⟩
         have bY2 : Below Y1.heap.size Y1 Y2 := by rw [← hY2]; exact below_drewN (Below.refl _ _) _
         rw [hY2]
         clear hY2
         replace x4 := BelS.c bY2 x4
         replace p5 := BelS.c bY2 p5
         replace p6 := BelS.c bY2 p6
         replace y3 := BelS.c bY2 y3
         go_wp2_with fail
         go_quiet ((go_at_call 129; exact Calls.quiet_of_same (flip_same (C3.out _))))
         obtain ⟨Y3, hY3⟩ : ∃ Y, Y2.drewN nq = Y := ⟨_, rfl⟩
         have bY3 : Below Y2.heap.size Y2 Y3 := by rw [← hY3]; exact below_drewN (Below.refl _ _) _
         rw [hY3]
         clear hY3
         replace S4 := Lib.hid (((S4.out.below bY1).below bY2).below bY3)
         replace RL4 := Lib.hid (((RL4.out.up bY1.size bY1).up bY2.size bY2).up bY3.size bY3)
         clear C1 C2 C3 x1 x2 x3 x4 p2 p3 p4 p5 p6 y1 y2 y3 bY1 bY2 bY3
         have hx : (i1 = true ∧ i2 = true ∧ i3 = true) ∨ (i1 && (i2 && i3)) = false := by cases i1 <;> cases i2 <;> cases i3 <;> simp
         rcases hx with ⟨rfl, rfl, rfl⟩ | hx
         ·have HOK3 : Hid (okW s p = true) := Lib.hid HOW.out
          go_wp2_with fail
          go_roundw
          case rel => exact ⟨k + 1, by go_num, by omega, fun j q hj hq => by
           rcases Nat.lt_or_ge j k with h | h
           ·exact HOK2.out j q h hq
           ·obtain rfl : j = k := by omega
            rw [HP.out] at hq
            cases hq
            exact HOK3.out, S4.out, RL4.out⟩
          case measure => show nt - ((k : Int) + 1).toNat < nt - (k : Int).toNat; omega
         ·have HF : Hid (d = 1) := Lib.hid (HBB2.out.elim (fun hy => by have := hy.1.2 p (List.mem_of_getElem? HP.out); rw [HOW.out, hx] at this; cases this) (·.2))
          clear HOW
          cases i1 <;> cases i2 <;> cases i3 <;> simp only [Bool.and_self, Bool.and_true, Bool.and_false, Bool.false_and, Bool.true_and, Bool.true_eq_false, reduceCtorEq] at hx
          all_goals go_wp2_with fail
          all_goals go_ret
          all_goals exact ⟨by rw [HF.out]; try rfl, S4.out.bel⟩
        ·have hk0 : (nt : Int) ≤ (k : Int) := by omega
         obtain rfl : k = nt := by omega
         have HF : Hid (d = 0) := Lib.hid (HBB2.out.elim (·.2) (fun hx => absurd ⟨fun x hx => by
          obtain ⟨i, hi⟩ := List.mem_iff_getElem?.1 hx
          exact HOK.out i x (List.getElem?_eq_some_iff.1 hi).1 hi, fun p hp => by
          obtain ⟨i, hi⟩ := List.mem_iff_getElem?.1 hp
          exact HOK2.out i p (by have := lt_total hi; rw [HNT.out] at this; exact this) hi⟩ hx.1))
         go_wp2_with fail
         go_ret
         exact ⟨by rw [HF.out]; try rfl, S4.out.bel⟩
    ·have h3b : ((s.losses.length : Int) != (nt : Int)) = true := (neqB _ _).1.2 h3
     have HF : Hid (d = 1) := Lib.hid (HBB.out.elim (fun hx => by rw [HNH.out, HNT.out] at hx; exact absurd hx.1.2.2.2.1 h3) (·.2))
     refine tk KK1 29 43 J1 ?_
     try simp only [aS]
     refine tk KK1 30 44 J1 ?_
     try simp only [aS]
     refine wpAnyH_done (by kernel_rfl) ?_ _
     have BE := Lib.hid (S2.out.bel.trans ((BelS.b J1).mono S2.out.bel.size))
     clear x0 x1 x2 x3 x4
     go_wp2_with fail
     go_ret
     exact ⟨by rw [HF.out]; try rfl, BE.out⟩
   ·have h2b : ((s.leaks.length : Int) != (nt : Int)) = true := (neqB _ _).1.2 h2
    have HF : Hid (d = 1) := Lib.hid (HBB.out.elim (fun hx => by rw [HNH.out, HNT.out] at hx; exact absurd hx.1.2.2.1 h2) (·.2))
    refine tk KK1 21 35 J1 ?_
    try simp only [aS]
    refine tk KK1 22 36 J1 ?_
    try simp only [aS]
    refine tk KK1 23 37 J1 ?_
    try simp only [aS]
    refine sw 24 38 J1 ?_
    try simp only [aS]
    refine sw 25 39 J1 ?_
    try simp only [aS]
    refine sw 26 40 J1 ?_
    try simp only [aS]
    refine sw 27 41 J1 ?_
    try simp only [aS]
    refine sw 28 42 J1 ?_
    try simp only [aS]
    refine sw 29 43 J1 ?_
    try simp only [aS]
    refine tk KK1 30 44 J1 ?_
    try simp only [aS]
    refine wpAnyH_done (by kernel_rfl) ?_ _
    have BE := Lib.hid (S2.out.bel.trans ((BelS.b J1).mono S2.out.bel.size))
    clear x0 x1 x2 x3 x4
    go_wp2_with fail
    go_ret
    exact ⟨by rw [HF.out]; try rfl, BE.out⟩
  ·have h1b : ((s.boards.length : Int) != (nt : Int)) = true := (neqB _ _).1.2 h1
   have HF : Hid (d = 1) := Lib.hid (HBB.out.elim (fun hx => by rw [HNH.out, HNT.out] at hx; exact absurd hx.1.2.1 h1) (·.2))
   refine tk KK1 13 27 J1 ?_
   try simp only [aS]
   refine tk KK1 14 28 J1 ?_
   try simp only [aS]
   refine tk KK1 15 29 J1 ?_
   try simp only [aS]
   refine sw 16 30 J1 ?_
   try simp only [aS]
   refine sw 17 31 J1 ?_
   try simp only [aS]
   refine sw 18 32 J1 ?_
   try simp only [aS]
   refine sw 19 33 J1 ?_
   try simp only [aS]
   refine sw 20 34 J1 ?_
   try simp only [aS]
   refine sw 21 35 J1 ?_
   try simp only [aS]
   refine tk KK1 22 36 J1 ?_
   try simp only [aS]
   refine tk KK1 23 37 J1 ?_
   try simp only [aS]
   refine sw 24 38 J1 ?_
   try simp only [aS]
   refine sw 25 39 J1 ?_
   try simp only [aS]
   refine sw 26 40 J1 ?_
   try simp only [aS]
   refine sw 27 41 J1 ?_
   try simp only [aS]
   refine sw 28 42 J1 ?_
   try simp only [aS]
   refine sw 29 43 J1 ?_
   try simp only [aS]
   refine tk KK1 30 44 J1 ?_
   try simp only [aS]
   refine wpAnyH_done (by kernel_rfl) ?_ _
   have BE := Lib.hid (S2.out.bel.trans ((BelS.b J1).mono S2.out.bel.size))
   clear x0 x1 x2 x3 x4
   go_wp2_with fail
   go_ret
   exact ⟨by rw [HF.out]; try rfl, BE.out⟩
 ·have h0b : ((s.river.length : Int) != (nh : Int)) = true := (neqB _ _).1.2 h0
  have HF : Hid (d = 1) := Lib.hid (HBB.out.elim (fun hx => by rw [HNH.out, HNT.out] at hx; exact absurd hx.1.1 h0) (·.2))
  refine tk KK1 6 20 J1 ?_
  try simp only [aS]
  refine tk KK1 7 21 J1 ?_
  try simp only [aS]
  refine sw 8 22 J1 ?_
  try simp only [aS]
  refine sw 9 23 J1 ?_
  try simp only [aS]
  refine sw 10 24 J1 ?_
  try simp only [aS]
  refine sw 11 25 J1 ?_
  try simp only [aS]
  refine sw 12 26 J1 ?_
  try simp only [aS]
  refine sw 13 27 J1 ?_
  try simp only [aS]
  refine tk KK1 14 28 J1 ?_
  try simp only [aS]
  refine tk KK1 15 29 J1 ?_
  try simp only [aS]
  refine sw 16 30 J1 ?_
  try simp only [aS]
  refine sw 17 31 J1 ?_
  try simp only [aS]
  refine sw 18 32 J1 ?_
  try simp only [aS]
  refine sw 19 33 J1 ?_
  try simp only [aS]
  refine sw 20 34 J1 ?_
  try simp only [aS]
  refine sw 21 35 J1 ?_
  try simp only [aS]
  refine tk KK1 22 36 J1 ?_
  try simp only [aS]
  refine tk KK1 23 37 J1 ?_
  try simp only [aS]
  refine sw 24 38 J1 ?_
  try simp only [aS]
  refine sw 25 39 J1 ?_
  try simp only [aS]
  refine sw 26 40 J1 ?_
  try simp only [aS]
  refine sw 27 41 J1 ?_
  try simp only [aS]
  refine sw 28 42 J1 ?_
  try simp only [aS]
  refine sw 29 43 J1 ?_
  try simp only [aS]
  refine tk KK1 30 44 J1 ?_
  try simp only [aS]
  refine wpAnyH_done (by kernel_rfl) ?_ _
  have BE := Lib.hid (S2.out.bel.trans ((BelS.b J1).mono S2.out.bel.size))
  clear x0 x1 x2 x3 x4
  go_wp2_with fail
  go_ret
  exact ⟨by rw [HF.out]; try rfl, BE.out⟩
end Go.Proofs.Ytkoacclbempmdaa

/- Contracts of the specification's CheckWater, Flow, Tails, Lost. -/
namespace Go.Proofs.Ytkoacclbempmdaa
open Go.RowKit

theorem fl_field0 (A1 A2 : Option Addr) (n1 c1 n2 c2 : Nat) (x : Int) (w : World) : (Instr.field 171 (.agg #[.slice A1 n1 c1, .slice A2 n2 c2, .int .i64 x]) 0).run Try.prog w = .ok (.slice A1 n1 c1) w := by
 have hs : (sizeOf 25).run Try.prog w = .ok 1 w := by kernel_rfl
 unfold Instr.field
 simp [run_underlying Try.underlying171, asAgg, part, isAgg, hs]
theorem fl_field1 (A1 A2 : Option Addr) (n1 c1 n2 c2 : Nat) (x : Int) (w : World) : (Instr.field 171 (.agg #[.slice A1 n1 c1, .slice A2 n2 c2, .int .i64 x]) 1).run Try.prog w = .ok (.slice A2 n2 c2) w := by
 have hs : (sizeOf 25).run Try.prog w = .ok 1 w := by kernel_rfl
 unfold Instr.field
 simp [run_underlying Try.underlying171, asAgg, part, isAgg, hs]
theorem fl_field2 (A1 A2 : Option Addr) (n1 c1 n2 c2 : Nat) (x : Int) (w : World) : (Instr.field 171 (.agg #[.slice A1 n1 c1, .slice A2 n2 c2, .int .i64 x]) 2).run Try.prog w = .ok (.int .i64 x) w := by
 have hs : (sizeOf 3).run Try.prog w = .ok 1 w := by kernel_rfl
 unfold Instr.field
 simp [run_underlying Try.underlying171, asAgg, part, isAgg, hs]

/-- A result's block of a list and an error, wherever it lies. -/
structure R2B (g : Nat) (W : World) : Prop where
 c0 : W.cell? ⟨g, 0, none⟩ = some (.slice none 0 0)
 c1 : W.cell? ⟨g, 1, none⟩ = some (.int .i64 0)
 f0 : W.frozen? ⟨g, 0, none⟩ = false
 f1 : W.frozen? ⟨g, 1, none⟩ = false
theorem R2B.lt {g : Nat} {W : World} (h : R2B g W) : g < W.heap.size := World.block_lt_of_cell? _ _ h.c0
theorem R2B.below {g : Nat} {W W' : World} (h : R2B g W) (hb : Below W.heap.size W W') : R2B g W' :=
 ⟨(hb.cell (p := ⟨g, 0, none⟩) h.lt).trans h.c0, (hb.cell (p := ⟨g, 1, none⟩) h.lt).trans h.c1, (hb.frozen (p := ⟨g, 0, none⟩) h.lt).trans h.f0, (hb.frozen (p := ⟨g, 1, none⟩) h.lt).trans h.f1⟩
theorem R2B.ret {g : Nat} {w W : World} (h : R2B g W) (hb : Below w.heap.size w W) (hg : w.heap.size ≤ g) (v : Value) (d : Int) :
  ∃ X, (W.setCell ⟨g, 0, none⟩ v).setCell ⟨g, 1, none⟩ (.int .i64 d) = X ∧ X.cell? ⟨g, 0, none⟩ = some v ∧ X.cell? ⟨g, 1, none⟩ = some (.int .i64 d) ∧ Below w.heap.size w X ∧ GrownL [g] W X := by
 have gr : GrownL [g] W ((W.setCell ⟨g, 0, none⟩ v).setCell ⟨g, 1, none⟩ (.int .i64 d)) := (GrownL.set _ _ _ (by simp)).trans (GrownL.set _ _ _ (by simp))
 have e1 : (W.setCell ⟨g, 0, none⟩ v).cell? ⟨g, 0, none⟩ = some v := World.cell?_setCell_same' _ _ _ (by rw [h.c0]; rfl)
 have e2 : (W.setCell ⟨g, 0, none⟩ v).cell? ⟨g, 1, none⟩ = some (.int .i64 0) := (World.cell?_setCell_other _ ⟨g, 0, none⟩ ⟨g, 1, none⟩ _ (by simp)).trans h.c1
 exact ⟨_, rfl, (World.cell?_setCell_other _ ⟨g, 1, none⟩ ⟨g, 0, none⟩ _ (by simp)).trans e1, World.cell?_setCell_same' _ _ _ (by rw [e2]; rfl), hb.trans (gr.below (by simpa using hg) hb.size), gr⟩

set_option maxHeartbeats 8000000 in
set_option maxRecDepth 1000000 in
theorem rCheckWater_any (v wv : Value) (ws : Wk) (s : Wa) (d : Int) (w : World) (h : RK w.heap.size v ws w) (ht : total ws ≤ 100000) (hs : RWa w.heap.size wv s w) (hd : WatIs ws s d) :
  Calls Try.prog 59 #[.agg #[v], wv] w fun e w' => e = .returned (.int .i64 d) ∧ Below w.heap.size w w' := by
 obtain ⟨A, c, rfl, -⟩ := (show ∃ A c, v = .slice A ws.length c ∧ True by obtain ⟨A, c, e, _⟩ := h; exact ⟨A, c, e, trivial⟩)
 obtain ⟨A1, c1, A2, c2, A3, c3, A4, c4, rfl⟩ := hs.form
 have C1 := Lib.hid fun (d : Int) (hc : CheckIs ws d) W (hb : Below w.heap.size w W) => rcheck_any A ws.length c ws d W (h.up hb.size hb) ht hc
 have C2 := Lib.hid fun (hw : WOk ws) (hd : (WaOk ws s ∧ d = 0) ∨ (¬ WaOk ws s ∧ d = 1)) W (hb : Below w.heap.size w W) => rwater_any A c _ ws s d W (h.up hb.size hb) (hs.up hb.size hb) hw hd
 have S0 := Lib.hid (WW.new w (.slice A ws.length c) (.slice A1 s.river.length c1) (.slice A2 s.boards.length c2) (.slice A3 s.leaks.length c3) (.slice A4 s.losses.length c4))
 clear h hs
 have hx : (CheckIs ws d ∧ d ≠ 0) ∨ (CheckIs ws 0 ∧ ((WaOk ws s ∧ d = 0) ∨ (¬ WaOk ws s ∧ d = 1))) := by
  rcases hd with h | ⟨a, b, e⟩ | ⟨a, b, e⟩
  ·exact .inl h
  ·exact .inr ⟨a, .inr ⟨b, e⟩⟩
  ·exact .inr ⟨a, .inl ⟨b, e⟩⟩
 rcases hx with ⟨hc, hd⟩ | ⟨hc, hd⟩
 ·have HC := Lib.hid hc
  have hdb : (d != 0) = true := by rw [bne_iff_ne]; exact hd
  clear hc
  go_enter Try.func59, Try.ntmps59
  go_wp2_with fail
  refine (C1.out d HC.out _ S0.out.bel).mono ?_
  rintro e w1 ⟨rfl, b1⟩
  have S1 := Lib.hid (S0.out.below b1)
  clear b1
  go_wp2_with fail
  go_ret
  exact ⟨rfl, S1.out.bel⟩
 ·have HC := Lib.hid hc
  have HD := Lib.hid hd
  clear hc hd
  go_enter Try.func59, Try.ntmps59
  go_wp2_with fail
  refine (C1.out 0 HC.out _ S0.out.bel).mono ?_
  rintro e w1 ⟨rfl, b1⟩
  have S1 := Lib.hid (S0.out.below b1)
  clear b1
  have x0 := S1.out.wk
  have x1 := S1.out.r
  have x2 := S1.out.b
  have x3 := S1.out.k
  have x4 := S1.out.l
  go_wp2_with fail
  refine (C2.out HC.out.ok HD.out _ S1.out.bel).mono ?_
  rintro e w2 ⟨rfl, b1⟩
  have S2 := Lib.hid (S1.out.below b1)
  clear b1
  go_wp2_with fail
  go_ret
  exact ⟨rfl, S2.out.bel⟩

set_option maxHeartbeats 8000000 in
set_option maxRecDepth 1000000 in
theorem rFlow_any (v wv : Value) (ws : Wk) (s : Wa) (d : Int) (w : World) (h : RK w.heap.size v ws w) (ht : total ws ≤ 100000) (hs : RWa w.heap.size wv s w) (hd : WatIs ws s d) :
  Calls Try.prog 56 #[.agg #[v], wv] w fun e w' => ∃ u, e = .returned (.agg #[u, .int .i64 d]) ∧ OwnG encI 1 3 w.heap.size u (okL d (flowF ws s).thr) w' ∧ Below w.heap.size w w' := by
 obtain ⟨A, c, rfl, -⟩ := (show ∃ A c, v = .slice A ws.length c ∧ True by obtain ⟨A, c, e, _⟩ := h; exact ⟨A, c, e, trivial⟩)
 obtain ⟨A1, c1, A2, c2, A3, c3, A4, c4, rfl⟩ := hs.form
 have C1 := Lib.hid fun W (hb : Below w.heap.size w W) => rCheckWater_any (.slice A ws.length c) _ ws s d W (h.up hb.size hb) ht (hs.up hb.size hb) hd
 have C2 := Lib.hid fun (hw : WOk ws) (ho : WaOk ws s) W (hb : Below w.heap.size w W) => rflow_any A c _ ws s W (h.up hb.size hb) (hs.up hb.size hb) hw ho
 have S0 := Lib.hid ((WW.new w (.slice A ws.length c) (.slice A1 s.river.length c1) (.slice A2 s.boards.length c2) (.slice A3 s.leaks.length c3) (.slice A4 s.losses.length c4)).below ((Below.refl _ _).alloc (Nat.le_refl _) (.cells #[.slice none 0 0, .int .i64 0] 86)))
 have R0 : Hid (R2B (w.heap.size + 1 + 1) (((w.alloc (.cells #[.slice A ws.length c] 24)).alloc (.cells #[.slice A1 s.river.length c1, .slice A2 s.boards.length c2, .slice A3 s.leaks.length c3, .slice A4 s.losses.length c4] 27)).alloc (.cells #[.slice none 0 0, .int .i64 0] 86))) := Lib.hid ⟨by simp [go_sem], by simp [go_sem], by simp [go_sem], by simp [go_sem]⟩
 have HD := Lib.hid hd
 clear h hs hd
 go_enter Try.func56, Try.ntmps56
 go_wp2_with fail
 refine (C1.out _ S0.out.bel).mono ?_
 rintro e w1 ⟨rfl, b1⟩
 have S := Lib.hid (S0.out.below b1)
 have R := Lib.hid (R0.out.below b1)
 clear b1 S0 C1 R0
 by_cases hd0 : d = 0
 ·subst hd0
  have HOK := Lib.hid HD.out.ok
  have x0 := S.out.wk
  have x1 := S.out.r
  have x2 := S.out.b
  have x3 := S.out.k
  have x4 := S.out.l
  go_wp2_with fail
  refine (C2.out HOK.out.1 HOK.out.2 _ S.out.bel).mono ?_
  rintro e w2 ⟨v1, v2, rfl, o1, o2, b2⟩
  have S2 := Lib.hid (S.out.below b2)
  have R2 := Lib.hid (R.out.below b2)
  obtain ⟨U1, d1, rfl, -⟩ := o1.form
  obtain ⟨U2, d2, rfl, -⟩ := o2.form
  have HO := Lib.hid o1
  obtain ⟨m1, hm1⟩ : ∃ n, (flowF ws s).thr.length = n := ⟨_, rfl⟩
  obtain ⟨m2, hm2⟩ : ∃ n, (tailsL ws s).length = n := ⟨_, rfl⟩
  obtain ⟨L, hL⟩ : ∃ n, (flowF ws s).lost = n := ⟨_, rfl⟩
  rw [hm1] at HO
  rw [hm1, hm2, hL]
  have fl := fl_field0 U1 U2 m1 d1 m2 d2 L w2
  have r0 := R2.out.c0
  have r1 := R2.out.c1
  have r2 := R2.out.f0
  have r3 := R2.out.f1
  clear o1 o2 b2 x0 x1 x2 x3 x4 hm1 hm2 hL
  go_wp2_with fail
  obtain ⟨X, hX, p0, p1, bb, gg⟩ := R2.out.ret S2.out.bel (by omega) (.slice U1 m1 d1) 0
  rw [hX]
  clear hX
  refine bodyPost_ret (v := .agg #[.slice U1 m1 d1, .int .i64 0]) (by simp [results, Try.results56, go_sem, p0, p1]) rfl ?_
  have hs1 := S.out.siz
  have hs2 := R.out.lt
  exact ⟨_, rfl, by rw [okL_zero]; exact (HO.out.grown gg (fun q hq hm => by have := (HO.out.lt q hq).1; simp at hm; omega)).low (by omega), bb⟩
 ·have HD0 := Lib.hid hd0
  have hdb : (d != 0) = true := by rw [bne_iff_ne]; exact hd0
  have r0 := R.out.c0
  have r1 := R.out.c1
  have r2 := R.out.f0
  have r3 := R.out.f1
  go_wp2_with fail
  obtain ⟨X, hX, p0, p1, bb, gg⟩ := R.out.ret S.out.bel (by omega) (.slice none 0 0) d
  rw [hX]
  clear hX
  refine bodyPost_ret (v := .agg #[.slice none 0 0, .int .i64 d]) (by simp [results, Try.results56, go_sem, p0, p1]) rfl ?_
  exact ⟨_, rfl, by rw [okL_ne HD0.out]; exact OwnG.nil _ _ _ _ _, bb⟩

set_option maxHeartbeats 8000000 in
set_option maxRecDepth 1000000 in
theorem rTails_any (v wv : Value) (ws : Wk) (s : Wa) (d : Int) (w : World) (h : RK w.heap.size v ws w) (ht : total ws ≤ 100000) (hs : RWa w.heap.size wv s w) (hd : WatIs ws s d) :
  Calls Try.prog 57 #[.agg #[v], wv] w fun e w' => ∃ u, e = .returned (.agg #[u, .int .i64 d]) ∧ OwnG encI 1 3 w.heap.size u (okL d (tailsL ws s)) w' ∧ Below w.heap.size w w' := by
 obtain ⟨A, c, rfl, -⟩ := (show ∃ A c, v = .slice A ws.length c ∧ True by obtain ⟨A, c, e, _⟩ := h; exact ⟨A, c, e, trivial⟩)
 obtain ⟨A1, c1, A2, c2, A3, c3, A4, c4, rfl⟩ := hs.form
 have C1 := Lib.hid fun W (hb : Below w.heap.size w W) => rCheckWater_any (.slice A ws.length c) _ ws s d W (h.up hb.size hb) ht (hs.up hb.size hb) hd
 have C2 := Lib.hid fun (hw : WOk ws) (ho : WaOk ws s) W (hb : Below w.heap.size w W) => rflow_any A c _ ws s W (h.up hb.size hb) (hs.up hb.size hb) hw ho
 have S0 := Lib.hid ((WW.new w (.slice A ws.length c) (.slice A1 s.river.length c1) (.slice A2 s.boards.length c2) (.slice A3 s.leaks.length c3) (.slice A4 s.losses.length c4)).below ((Below.refl _ _).alloc (Nat.le_refl _) (.cells #[.slice none 0 0, .int .i64 0] 86)))
 have R0 : Hid (R2B (w.heap.size + 1 + 1) (((w.alloc (.cells #[.slice A ws.length c] 24)).alloc (.cells #[.slice A1 s.river.length c1, .slice A2 s.boards.length c2, .slice A3 s.leaks.length c3, .slice A4 s.losses.length c4] 27)).alloc (.cells #[.slice none 0 0, .int .i64 0] 86))) := Lib.hid ⟨by simp [go_sem], by simp [go_sem], by simp [go_sem], by simp [go_sem]⟩
 have HD := Lib.hid hd
 clear h hs hd
 go_enter Try.func57, Try.ntmps57
 go_wp2_with fail
 refine (C1.out _ S0.out.bel).mono ?_
 rintro e w1 ⟨rfl, b1⟩
 have S := Lib.hid (S0.out.below b1)
 have R := Lib.hid (R0.out.below b1)
 clear b1 S0 C1 R0
 by_cases hd0 : d = 0
 ·subst hd0
  have HOK := Lib.hid HD.out.ok
  have x0 := S.out.wk
  have x1 := S.out.r
  have x2 := S.out.b
  have x3 := S.out.k
  have x4 := S.out.l
  go_wp2_with fail
  refine (C2.out HOK.out.1 HOK.out.2 _ S.out.bel).mono ?_
  rintro e w2 ⟨v1, v2, rfl, o1, o2, b2⟩
  have S2 := Lib.hid (S.out.below b2)
  have R2 := Lib.hid (R.out.below b2)
  obtain ⟨U1, d1, rfl, -⟩ := o1.form
  obtain ⟨U2, d2, rfl, -⟩ := o2.form
  have HO := Lib.hid o2
  obtain ⟨m1, hm1⟩ : ∃ n, (flowF ws s).thr.length = n := ⟨_, rfl⟩
  obtain ⟨m2, hm2⟩ : ∃ n, (tailsL ws s).length = n := ⟨_, rfl⟩
  obtain ⟨L, hL⟩ : ∃ n, (flowF ws s).lost = n := ⟨_, rfl⟩
  rw [hm2] at HO
  rw [hm1, hm2, hL]
  have fl := fl_field1 U1 U2 m1 d1 m2 d2 L w2
  have r0 := R2.out.c0
  have r1 := R2.out.c1
  have r2 := R2.out.f0
  have r3 := R2.out.f1
  clear o1 o2 b2 x0 x1 x2 x3 x4 hm1 hm2 hL
  go_wp2_with fail
  obtain ⟨X, hX, p0, p1, bb, gg⟩ := R2.out.ret S2.out.bel (by omega) (.slice U2 m2 d2) 0
  rw [hX]
  clear hX
  refine bodyPost_ret (v := .agg #[.slice U2 m2 d2, .int .i64 0]) (by simp [results, Try.results57, go_sem, p0, p1]) rfl ?_
  have hs1 := S.out.siz
  have hs2 := R.out.lt
  exact ⟨_, rfl, by rw [okL_zero]; exact (HO.out.grown gg (fun q hq hm => by have := (HO.out.lt q hq).1; simp at hm; omega)).low (by omega), bb⟩
 ·have HD0 := Lib.hid hd0
  have hdb : (d != 0) = true := by rw [bne_iff_ne]; exact hd0
  have r0 := R.out.c0
  have r1 := R.out.c1
  have r2 := R.out.f0
  have r3 := R.out.f1
  go_wp2_with fail
  obtain ⟨X, hX, p0, p1, bb, gg⟩ := R.out.ret S.out.bel (by omega) (.slice none 0 0) d
  rw [hX]
  clear hX
  refine bodyPost_ret (v := .agg #[.slice none 0 0, .int .i64 d]) (by simp [results, Try.results57, go_sem, p0, p1]) rfl ?_
  exact ⟨_, rfl, by rw [okL_ne HD0.out]; exact OwnG.nil _ _ _ _ _, bb⟩

set_option maxHeartbeats 8000000 in
set_option maxRecDepth 1000000 in
theorem rLost_any (v wv : Value) (ws : Wk) (s : Wa) (d : Int) (w : World) (h : RK w.heap.size v ws w) (ht : total ws ≤ 100000) (hs : RWa w.heap.size wv s w) (hd : WatIs ws s d) :
  Calls Try.prog 58 #[.agg #[v], wv] w fun e w' => e = .returned (.tuple #[.int .i64 (okN d (flowF ws s).lost), .int .i64 d]) ∧ Below w.heap.size w w' := by
 obtain ⟨A, c, rfl, -⟩ := (show ∃ A c, v = .slice A ws.length c ∧ True by obtain ⟨A, c, e, _⟩ := h; exact ⟨A, c, e, trivial⟩)
 obtain ⟨A1, c1, A2, c2, A3, c3, A4, c4, rfl⟩ := hs.form
 have C1 := Lib.hid fun W (hb : Below w.heap.size w W) => rCheckWater_any (.slice A ws.length c) _ ws s d W (h.up hb.size hb) ht (hs.up hb.size hb) hd
 have C2 := Lib.hid fun (hw : WOk ws) (ho : WaOk ws s) W (hb : Below w.heap.size w W) => rflow_any A c _ ws s W (h.up hb.size hb) (hs.up hb.size hb) hw ho
 have S0 := Lib.hid (WW.new w (.slice A ws.length c) (.slice A1 s.river.length c1) (.slice A2 s.boards.length c2) (.slice A3 s.leaks.length c3) (.slice A4 s.losses.length c4))
 have HD := Lib.hid hd
 obtain ⟨L, hL⟩ : ∃ n, okN d (flowF ws s).lost = n := ⟨_, rfl⟩
 have HL := Lib.hid hL
 rw [hL]
 clear h hs hd hL
 go_enter Try.func58, Try.ntmps58
 go_wp2_with fail
 refine (C1.out _ S0.out.bel).mono ?_
 rintro e w1 ⟨rfl, b1⟩
 have S := Lib.hid (S0.out.below b1)
 clear b1 S0 C1
 by_cases hd0 : d = 0
 ·subst hd0
  have HOK := Lib.hid HD.out.ok
  have x0 := S.out.wk
  have x1 := S.out.r
  have x2 := S.out.b
  have x3 := S.out.k
  have x4 := S.out.l
  go_wp2_with fail
  refine (C2.out HOK.out.1 HOK.out.2 _ S.out.bel).mono ?_
  rintro e w2 ⟨v1, v2, rfl, o1, o2, b2⟩
  have S2 := Lib.hid (S.out.below b2)
  obtain ⟨U1, d1, rfl, -⟩ := o1.form
  obtain ⟨U2, d2, rfl, -⟩ := o2.form
  have hL : (flowF ws s).lost = L := by have := HL.out; rwa [okN_zero] at this
  obtain ⟨m1, hm1⟩ : ∃ n, (flowF ws s).thr.length = n := ⟨_, rfl⟩
  obtain ⟨m2, hm2⟩ : ∃ n, (tailsL ws s).length = n := ⟨_, rfl⟩
  rw [hL, hm1, hm2]
  have fl := fl_field2 U1 U2 m1 d1 m2 d2 L w2
  clear o1 o2 b2 x0 x1 x2 x3 x4 hL hm1 hm2
  go_wp2_with fail
  refine bodyPost_ret (results_tmp2 rfl _ _ _) rfl ?_
  exact ⟨rfl, S2.out.bel⟩
 ·have HD0 := Lib.hid hd0
  have hdb : (d != 0) = true := by rw [bne_iff_ne]; exact hd0
  obtain rfl : L = 0 := by have := HL.out; unfold okN at this; rw [if_neg hd0] at this; exact this.symm
  go_wp2_with fail
  refine bodyPost_ret (results_tmp2 rfl _ _ _) rfl ?_
  exact ⟨rfl, S.out.bel⟩
end Go.Proofs.Ytkoacclbempmdaa

/- Contracts of the laws' flowing, boarded, given. -/
namespace Go.Proofs.Ytkoacclbempmdaa
open Go.RowKit

set_option maxHeartbeats 8000000 in
set_option maxRecDepth 1000000 in
theorem flowing_any (v wv : Value) (ws : Wk) (s : Wa) (i : Nat) (w : World) (h : RK w.heap.size v ws w) (ht : total ws ≤ 100000) (hs : RWa w.heap.size wv s w) (hd : WatIs ws s 0) (hi : i < total ws) :
  Calls Try.prog 36 #[.agg #[v], wv, .int .i64 i] w fun e w' => e = .returned (.int .i64 ((flowF ws s).thr.getD i 0)) ∧ Below w.heap.size w w' := by
 obtain ⟨A, c, rfl, -⟩ := (show ∃ A c, v = .slice A ws.length c ∧ True by obtain ⟨A, c, e, _⟩ := h; exact ⟨A, c, e, trivial⟩)
 obtain ⟨A1, c1, A2, c2, A3, c3, A4, c4, rfl⟩ := hs.form
 have C1 := Lib.hid fun W (hb : Below w.heap.size w W) => Flow_any (.slice A ws.length c) _ ws s 0 W (h.up hb.size hb) (by omega) (hs.up hb.size hb) hd
 have S0 := Lib.hid (WW.new w (.slice A ws.length c) (.slice A1 s.river.length c1) (.slice A2 s.boards.length c2) (.slice A3 s.leaks.length c3) (.slice A4 s.losses.length c4))
 have hlf : (flowF ws s).thr.length = total ws := thr_len ws s _ (Nat.le_refl _)
 obtain ⟨x, hx⟩ : ∃ x, (flowF ws s).thr[i]? = some x := ⟨_, List.getElem?_eq_getElem (by omega)⟩
 have hg : (flowF ws s).thr.getD i 0 = x := by rw [List.getD_eq_getElem?_getD, hx]; rfl
 have HX := Lib.hid hx
 have HLF := Lib.hid hlf
 have HT := Lib.hid ht
 have hi0 : (i : Int) < (total ws : Int) := by omega
 have hi1 : (0 : Int) ≤ (i : Int) := by omega
 rw [hg]
 clear h hs hd hx hg hlf hi
 go_enter Try.func36, Try.ntmps36
 go_wp2_with fail
 refine (C1.out _ S0.out.bel).mono ?_
 rintro e w1 ⟨u, rfl, hu, b1⟩
 have S1 := Lib.hid (S0.out.below b1)
 rw [okL_zero] at hu
 obtain ⟨U, cu, rfl, -⟩ := hu.form
 rw [HLF.out]
 have R := Lib.hid (hu.rr EI (by rw [HLF.out]; have := HT.out; show total ws ≤ 1000000000000000; omega))
 rw [HLF.out] at R
 obtain ⟨b, o, rfl, -, q⟩ := R.out.int HX.out
 clear b1 hu R
 go_wp2_with fail
 go_ret
 exact ⟨rfl, S1.out.bel⟩

theorem set4b {W : World} {b : Nat} {a0 a1 a2 a3 : Value} (h0 : W.cell? ⟨b, 0, none⟩ = some a0) (h1 : W.cell? ⟨b, 1, none⟩ = some a1) (h2 : W.cell? ⟨b, 2, none⟩ = some a2) (h3 : W.cell? ⟨b, 3, none⟩ = some a3) (v0 v1 v2 v3 : Value) {X : World} (hX : (((W.setCell ⟨b, 0, none⟩ v0).setCell ⟨b, 1, none⟩ v1).setCell ⟨b, 2, none⟩ v2).setCell ⟨b, 3, none⟩ v3 = X) :
  X.cell? ⟨b, 0, none⟩ = some v0 ∧ X.cell? ⟨b, 1, none⟩ = some v1 ∧ X.cell? ⟨b, 2, none⟩ = some v2 ∧ X.cell? ⟨b, 3, none⟩ = some v3 ∧ GrownL [b] W X := by
 subst hX
 have n : ∀ i j, i ≠ j → ∀ (X : World) (v : Value), (X.setCell ⟨b, i, none⟩ v).cell? ⟨b, j, none⟩ = X.cell? ⟨b, j, none⟩ := fun i j hij X v => World.cell?_setCell_other _ ⟨b, i, none⟩ ⟨b, j, none⟩ _ (by simp <;> omega)
 obtain ⟨p0, p1, p2, g⟩ := set3 h0 h1 h2 v0 v1 v2
 refine ⟨by rw [n 3 0 (by decide), p0], by rw [n 3 1 (by decide), p1], by rw [n 3 2 (by decide), p2], World.cell?_setCell_same' _ _ _ (by rw [n 2 3 (by decide), n 1 3 (by decide), n 0 3 (by decide), h3]; rfl), g.trans (GrownL.set _ _ _ (by simp))⟩

/-- A literal without elements is a list of one's own. -/
theorem OwnG.lit0 {α : Type} (enc : α → List Value) (s : Nat) (e : TypeId) {base g : Nat} {W : World} (hg : W.heap[g]? = some (.cells #[] e (0, 0))) (hb : base ≤ g) : OwnG enc s e base (.slice (some ⟨g, 0, none⟩) 0 0) [] W :=
 ⟨by simp, .inr ⟨g, 0, #[], rfl, hb, hg, Nat.le_refl _, by unfold maxLen; omega, by simp, by simp⟩⟩

set_option maxHeartbeats 8000000 in
set_option maxRecDepth 1000000 in
theorem boarded_any (wv : Value) (s : Wa) (i : Nat) (k : Int) (w : World) (hs : RWa w.heap.size wv s w) (hi : i < s.boards.length) (hl : s.boards.length ≤ 1000) :
  Calls Try.prog 37 #[wv, .int .i64 i, .int .i64 k] w fun e w' => ∃ v, e = .returned v ∧ RWa w'.heap.size v (setB s i k) w' ∧ Below w.heap.size w w' := by
 obtain ⟨i0, hz0, hj0, hj1, hj2⟩ := info_parts infoInt
 obtain ⟨A1, c1, A2, c2, A3, c3, A4, c4, rfl⟩ := hs.form
 have HS := Lib.hid hs
 obtain ⟨W0, hW0⟩ : ∃ W0, ((w.alloc (.cells #[.slice A1 s.river.length c1, .slice A2 s.boards.length c2, .slice A3 s.leaks.length c3, .slice A4 s.losses.length c4] 27)).alloc (.cells #[.slice none 0 0, .slice none 0 0, .slice none 0 0, .slice none 0 0] 27)) = W0 := ⟨_, rfl⟩
 have hsz : W0.heap.size = w.heap.size + 2 := by rw [← hW0]; simp
 have hB0 : Below w.heap.size w W0 := by rw [← hW0]; exact ((Below.refl _ _).alloc (Nat.le_refl _) _).alloc (by simp) _
 have K0 : (∀ j u, [Value.slice A1 s.river.length c1, .slice A2 s.boards.length c2, .slice A3 s.leaks.length c3, .slice A4 s.losses.length c4][j]? = some u → W0.cell? ⟨w.heap.size, j, none⟩ = some u) ∧ (∀ j, W0.frozen? ⟨w.heap.size, j, none⟩ = false) ∧ (∀ j, j < 4 → W0.cell? ⟨w.heap.size + 1, j, none⟩ = some (.slice none 0 0)) ∧ ∀ j, W0.frozen? ⟨w.heap.size + 1, j, none⟩ = false := by
  rw [← hW0]
  refine ⟨fun j u hj => ?_, fun j => by simp [go_sem], fun j hj => ?_, fun j => by simp [go_sem]⟩
  ·match j, hj with
   | 0, hj => simpa [go_sem] using hj
   | 1, hj => simpa [go_sem] using hj
   | 2, hj => simpa [go_sem] using hj
   | 3, hj => simpa [go_sem] using hj
   | j + 4, hj => simp at hj
  ·match j, hj with
   | 0, _ => simp [go_sem]
   | 1, _ => simp [go_sem]
   | 2, _ => simp [go_sem]
   | 3, _ => simp [go_sem]
 obtain ⟨W3, hW3⟩ : ∃ W3, W0.alloc (.cells #[] 3) = W3 := ⟨_, rfl⟩
 have g3 : GrownL [] W0 W3 := by rw [← hW3]; exact GrownL.of_below ((Below.refl _ _).alloc (Nat.le_refl _) _)
 have hs3 : W3.heap.size = w.heap.size + 3 := by rw [← hW3]; simp [hsz]
 have hB3 : Below w.heap.size w W3 := hB0.trans (g3.below (by simp) hB0.size)
 obtain ⟨v', W', r1, o1, g1, s1⟩ := app_list (P := Try.prog) (base := w.heap.size + 2) EI Try.underlying25 hz0 hj0 hj1 hj2 rfl (OwnG.lit0 encI 1 3 (W := W3) (g := W0.heap.size) (by rw [← hW3]; exact World.alloc_heap_new W0 _) (by omega)) hs.parts.2.1 hB3 (by omega) (by simp) (by omega) (by decide)
 rw [List.nil_append] at o1
 have hg1 : ∀ k, k < w.heap.size + 2 → k ∉ (Value.slice (some ⟨W0.heap.size, 0, none⟩) 0 0).ownBlock.toList := fun k hk hm => by simp [Value.ownBlock] at hm; omega
 have hB' : Below w.heap.size w W' := hB3.trans (g1.below (fun k hk => by simp [Value.ownBlock] at hk; omega) hB3.size)
 have KW := fun (a : Addr) (ha : a.block < w.heap.size + 2) => And.intro (fun u (hu : W0.cell? a = some u) => g1.cell (g3.cell hu (by simp)) (hg1 _ ha)) (fun (hu : W0.frozen? a = false) => (World.frozen?_of_block (a := a) (g1.block _ (by omega) (hg1 _ ha))).trans ((World.frozen?_of_block (a := a) (g3.block _ (by omega) (by simp))).trans hu))
 obtain ⟨Ag, cg, rfl, hAg⟩ := o1.form
 obtain ⟨g, rfl⟩ := hAg (by omega)
 have hgg := o1.lt g rfl
 have x0 := (KW ⟨w.heap.size, 0, none⟩ (by show w.heap.size < _; omega)).1 _ (K0.1 0 _ rfl)
 have x1 := (KW ⟨w.heap.size, 1, none⟩ (by show w.heap.size < _; omega)).1 _ (K0.1 1 _ rfl)
 have x2 := (KW ⟨w.heap.size, 2, none⟩ (by show w.heap.size < _; omega)).1 _ (K0.1 2 _ rfl)
 have x3 := (KW ⟨w.heap.size, 3, none⟩ (by show w.heap.size < _; omega)).1 _ (K0.1 3 _ rfl)
 have z1 := (KW ⟨w.heap.size, 1, none⟩ (by show w.heap.size < _; omega)).2 (K0.2.1 1)
 have R := Lib.hid (fun j (hj : j < 4) => And.intro ((KW ⟨w.heap.size + 1, j, none⟩ (by show w.heap.size + 1 < _; omega)).1 _ (K0.2.2.1 j hj)) ((KW ⟨w.heap.size + 1, j, none⟩ (by show w.heap.size + 1 < _; omega)).2 (K0.2.2.2 j)))
 have y1 : (W0.alloc (.cells #[] 3)).cell? ⟨w.heap.size, 1, none⟩ = some (.slice A2 s.boards.length c2) := by rw [hW3]; exact g3.cell (K0.1 1 _ rfl) (by simp)
 have R1 := Lib.hid r1
 have HW0 := Lib.hid hW0
 have HW3 := Lib.hid hW3
 -- behind the store of the list
 obtain ⟨X, hX⟩ : ∃ X, W'.setCell ⟨w.heap.size, 1, none⟩ (.slice (some ⟨g, 0, none⟩) s.boards.length cg) = X := ⟨_, rfl⟩
 have gX : GrownL [w.heap.size] W' X := by rw [← hX]; exact GrownL.set _ _ _ (by simp)
 have oX := o1.grown gX (fun b hb hm => by simp [Value.ownBlock] at hb hm; omega)
 have ow' : X.ownsRow (w.heap.size + 2) 3 1 (.slice (some ⟨g, 0, none⟩) s.boards.length cg) s.boards.length (s.boards.flatMap encI) := oX
 obtain ⟨y, hy⟩ : ∃ y, s.boards[i]? = some y := ⟨_, List.getElem?_eq_getElem hi⟩
 have hat : (s.boards.flatMap encI)[i]? = some (.int .i64 y) := by have := EI.at_ s.boards i 0 y hy (by decide); rw [Nat.mul_one, Nat.add_zero] at this; exact this.trans rfl
 have u0 : X.cell? ⟨g, i, none⟩ = some (.int .i64 y) := (World.ownsRow.cellAt ow' i (by omega)).trans hat
 have u1 := World.ownsRow.frozenAt ow' i
 have u2 : X.cell? ⟨w.heap.size, 1, none⟩ = some (.slice (some ⟨g, 0, none⟩) s.boards.length cg) := by rw [← hX]; exact World.cell?_setCell_same' _ _ _ (by rw [x1]; rfl)
 -- behind the store of the number
 obtain ⟨Y, hY⟩ : ∃ Y, X.setCell ⟨g, i, none⟩ (.int .i64 k) = Y := ⟨_, rfl⟩
 have gY : GrownL [g] X Y := by rw [← hY]; exact GrownL.set _ _ _ (by simp)
 have oY : OwnG encI 1 3 (w.heap.size + 2) (.slice (some ⟨g, 0, none⟩) s.boards.length cg) (s.boards.set i k) Y := by rw [← hY]; exact OwnG.set1 oX rfl i k
 have nX : ∀ a : Addr, a.block = w.heap.size + 1 → ∀ u, W'.cell? a = some u → Y.cell? a = some u := fun a ha u hu => gY.cell (gX.cell hu (by simp; omega)) (by simp; omega)
 have fX : ∀ a : Addr, a.block = w.heap.size + 1 → W'.frozen? a = false → Y.frozen? a = false := fun a ha hu => (World.frozen?_of_block (a := a) (gY.block _ (by have := gX.size; have := hB'.size; omega) (by simp; omega))).trans ((World.frozen?_of_block (a := a) (gX.block _ (by omega) (by simp; omega))).trans hu)
 have cX : ∀ j u, j ≠ 1 → W'.cell? ⟨w.heap.size, j, none⟩ = some u → Y.cell? ⟨w.heap.size, j, none⟩ = some u := fun j u hj hu => gY.cell (by rw [← hX]; exact (World.cell?_setCell_other _ ⟨w.heap.size, 1, none⟩ ⟨w.heap.size, j, none⟩ _ (by simp <;> omega)).trans hu) (by simp; omega)
 have a0 := cX 0 _ (by decide) x0
 have a1 := gY.cell u2 (by simp; omega)
 have a2 := cX 2 _ (by decide) x2
 have a3 := cX 3 _ (by decide) x3
 have HB := Lib.hid (hB'.trans ((gX.below (fun k hk => by simp at hk; omega) hB'.size).trans (gY.below (fun k hk => by simp at hk; omega) (by have := gX.size; have := hB'.size; omega))))
 have OY := Lib.hid oY
 have HX := Lib.hid hX
 have HY := Lib.hid hY
 have RY := Lib.hid (fun j (hj : j < 4) => And.intro (nX ⟨w.heap.size + 1, j, none⟩ rfl _ (R.out j hj).1) (fX ⟨w.heap.size + 1, j, none⟩ rfl (R.out j hj).2))
 have hi0 : (i : Int) < (s.boards.length : Int) := by omega
 have HG := Lib.hid hgg
 have HL := Lib.hid hl
 clear hs r1 hW0 hW3 hX hY K0 hB0 hB3 hB' KW o1 oX oY ow' hat hy gX gY nX fX cX hgg hg1 g1 g3 hs3 hsz hAg s1 R x2 x3 x0
 go_enter Try.func37, Try.ntmps37
 go_upto_region 1 with fail
 rw [HW0.out]
 go_upto_region 2 with (at_builtin; rw [HW3.out]; refine Lib.wpList_append_run _ rfl _ _ _ _ rfl _ _ rfl rfl _ W' R1.out ?_)
 rw [HX.out]
 clear x1 z1 y1
 go_upto_region 3 with fail
 rw [HY.out]
 clear u0 u1 u2
 have r0 := (RY.out 0 (by decide)).1
 have r1 := (RY.out 1 (by decide)).1
 have r2 := (RY.out 2 (by decide)).1
 have r3 := (RY.out 3 (by decide)).1
 have f0 := (RY.out 0 (by decide)).2
 have f1 := (RY.out 1 (by decide)).2
 have f2 := (RY.out 2 (by decide)).2
 have f3 := (RY.out 3 (by decide)).2
 go_wp2_with fail
 obtain ⟨Z, hZ⟩ : ∃ Z, (((Y.setCell ⟨w.heap.size + 1, 0, none⟩ (.slice A1 s.river.length c1)).setCell ⟨w.heap.size + 1, 1, none⟩ (.slice (some ⟨g, 0, none⟩) s.boards.length cg)).setCell ⟨w.heap.size + 1, 2, none⟩ (.slice A3 s.leaks.length c3)).setCell ⟨w.heap.size + 1, 3, none⟩ (.slice A4 s.losses.length c4) = Z := ⟨_, rfl⟩
 obtain ⟨p0, p1, p2, p3, gz⟩ := set4b r0 r1 r2 r3 _ _ _ _ hZ
 rw [hZ]
 clear hZ
 refine bodyPost_ret (v := .agg #[.slice A1 s.river.length c1, .slice (some ⟨g, 0, none⟩) s.boards.length cg, .slice A3 s.leaks.length c3, .slice A4 s.losses.length c4]) (by simp [results, Try.results37, go_sem, p0, p1, p2, p3]) rfl ?_
 have bz := HB.out.trans (gz.below (fun k hk => by simp at hk; omega) HB.out.size)
 have hZs : w.heap.size ≤ Z.heap.size := bz.size
 refine ⟨_, rfl, ⟨_, _, _, _, rfl, (HS.out.parts.1).up hZs bz, ?_, (HS.out.parts.2.2.1).up hZs bz, (HS.out.parts.2.2.2).up hZs bz⟩, bz⟩
 have := (OY.out.grown gz (fun b hb hm => by have := (OY.out.lt b hb).1; simp at hm; omega)).rr EI (by rw [List.length_set]; have := HL.out; show s.boards.length ≤ 1000000000000000; omega)
 exact this
end Go.Proofs.Ytkoacclbempmdaa

/- Contracts of the specification's wished and Open. -/
namespace Go.Proofs.Ytkoacclbempmdaa
open Go.RowKit

set_option maxHeartbeats 8000000 in
set_option maxRecDepth 1000000 in
theorem rwished_any (v wv : Value) (ws : Wk) (s : Wa) (id want i d : Int) (w : World) (h : RK w.heap.size v ws w) (ht : total ws ≤ 100000) (hs : RWa w.heap.size wv s w) (hd : WishAt ws s id want i d) :
  Calls Try.prog 128 #[.agg #[v], wv, .int .i64 id, .int .i64 want] w fun e w' => e = .returned (.tuple #[.int .i64 i, .int .i64 d]) ∧ Below w.heap.size w w' := by
 obtain ⟨A, c, rfl, -⟩ := (show ∃ A c, v = .slice A ws.length c ∧ True by obtain ⟨A, c, e, _⟩ := h; exact ⟨A, c, e, trivial⟩)
 obtain ⟨A1, c1, A2, c2, A3, c3, A4, c4, rfl⟩ := hs.form
 have S0 := Lib.hid (WW.new w (.slice A ws.length c) (.slice A1 s.river.length c1) (.slice A2 s.boards.length c2) (.slice A3 s.leaks.length c3) (.slice A4 s.losses.length c4))
 have C1 := Lib.hid fun (d : Int) (hc : WatIs ws s d) W (hb : Below w.heap.size w W) => rCheckWater_any (.slice A ws.length c) _ ws s d W (h.up hb.size hb) ht (hs.up hb.size hb) hc
 have C2 := Lib.hid fun (r : Int) (hr : FstIs (fun o : Ou => o.id) (outs ws) id r) W (hb : Below w.heap.size w W) => rindex_any A ws.length c ws id r W (h.up hb.size hb) ht hr
 clear h hs
 -- the water's error
 have hx : (WatIs ws s d ∧ d ≠ 0 ∧ i = 0) ∨ (WatIs ws s 0 ∧ ∃ r, FstIs (fun o : Ou => o.id) (outs ws) id r ∧ ((r < 0 ∧ i = 0 ∧ d = 5) ∨ (0 ≤ r ∧ inB 0 1048576 want = false ∧ i = 0 ∧ d = 1) ∨ (0 ≤ r ∧ inB 0 1048576 want = true ∧ i = r ∧ d = 0))) := by
  have known : ∀ {j e : Int}, WatIs ws s 0 → KnownIs ws id j e → (e = 0 ∧ FstIs (fun o : Ou => o.id) (outs ws) id j ∧ 0 ≤ j) ∨ (FstIs (fun o : Ou => o.id) (outs ws) id (-1) ∧ j = 0 ∧ e = 5) := fun hw hk => by
   rcases hk with ⟨h1, h2, -⟩ | ⟨_, h2, h3, h4⟩ | ⟨_, h2, h3, h4⟩
   ·exfalso
    have hok := hw.ok.1
    rcases h1 with ⟨hm, _⟩ | ⟨_, _, ⟨k, q, hq, -, hb, -⟩ | ⟨_, e0⟩⟩
    ·have := hok.len
     have := hok.tot
     omega
    ·rcases hb with ⟨hb, _⟩ | ⟨_, ⟨m, q', hm, hq', hh⟩, _⟩ | ⟨_, _, e0⟩
     ·have := hok.ok q (List.mem_of_getElem? hq)
      rw [hb] at this
      cases this
     ·have := hok.one m k q' q hq' hq hm
      rcases hh with e | ⟨e1, e2⟩
      ·exact this.1 e
      ·exact this.2 e1 e2
     ·exact h2 e0
    ·exact h2 e0
   ·exact .inr ⟨h2, h3, h4⟩
   ·exact .inl ⟨h4, h2, h3⟩
  rcases hd with ⟨h1, h2, h3⟩ | ⟨h1, h2, h3⟩ | ⟨h1, ⟨j, h2⟩, h3, h4, h5⟩ | ⟨h1, h2, h3, h4⟩
  ·exact .inl ⟨h1, h2, h3⟩
  ·rcases known h1 h2 with ⟨e, _⟩ | ⟨a, b, e⟩
   ·exact absurd e h3
   ·exact .inr ⟨h1, -1, a, .inl ⟨by omega, b, e⟩⟩
  ·rcases known h1 h2 with ⟨_, a, b⟩ | ⟨_, _, e⟩
   ·exact .inr ⟨h1, j, a, .inr (.inl ⟨b, h3, h4, h5⟩)⟩
   ·omega
  ·rcases known h1 h2 with ⟨_, a, b⟩ | ⟨_, _, e⟩
   ·exact .inr ⟨h1, i, a, .inr (.inr ⟨b, h3, rfl, h4⟩)⟩
   ·omega
 clear hd
 rcases hx with ⟨hc, hd, rfl⟩ | ⟨hc, r, hr, hx⟩
 ·have HC := Lib.hid hc
  have hdb : (d != 0) = true := by rw [bne_iff_ne]; exact hd
  clear hc
  go_enter Try.func128, Try.ntmps128
  go_wp2_with fail
  refine (C1.out d HC.out _ S0.out.bel).mono ?_
  rintro e w1 ⟨rfl, b1⟩
  have S := Lib.hid (S0.out.below b1)
  clear b1
  go_wp2_with fail
  refine bodyPost_ret (results_tmp2 rfl _ _ _) rfl ?_
  exact ⟨rfl, S.out.bel⟩
 ·have HC := Lib.hid hc
  have HR := Lib.hid hr
  have HX := Lib.hid hx
  clear hc hr hx
  go_enter Try.func128, Try.ntmps128
  go_wp2_with fail
  refine (C1.out 0 HC.out _ S0.out.bel).mono ?_
  rintro e w1 ⟨rfl, b1⟩
  have S := Lib.hid (S0.out.below b1)
  have x0 := S.out.wk
  clear b1
  go_wp2_with fail
  refine (C2.out r HR.out _ S.out.bel).mono ?_
  rintro e w2 ⟨rfl, b1⟩
  have S2 := Lib.hid (S.out.below b1)
  clear b1 x0
  rcases HX.out with ⟨h1, rfl, rfl⟩ | ⟨h1, h2, rfl, rfl⟩ | ⟨h1, h2, rfl, rfl⟩
  ·go_wp2_with fail
   refine bodyPost_ret (results_tmp2 rfl _ _ _) rfl ?_
   exact ⟨rfl, S2.out.bel⟩
  ·have h3 : ¬ r < 0 := by omega
   have H2 := Lib.hid h2
   clear h2
   go_wp2_with fail
   refine (within_any want 0 1048576 _).mono ?_
   rintro e w3 ⟨rfl, b1⟩
   have S3 := Lib.hid (S2.out.below b1)
   clear b1
   rw [H2.out]
   go_wp2_with fail
   refine bodyPost_ret (results_tmp2 rfl _ _ _) rfl ?_
   exact ⟨rfl, S3.out.bel⟩
  ·have h3 : ¬ i < 0 := by omega
   have H2 := Lib.hid h2
   clear h2
   go_wp2_with fail
   refine (within_any want 0 1048576 _).mono ?_
   rintro e w3 ⟨rfl, b1⟩
   have S3 := Lib.hid (S2.out.below b1)
   clear b1
   rw [H2.out]
   go_wp2_with fail
   refine bodyPost_ret (results_tmp2 rfl _ _ _) rfl ?_
   exact ⟨rfl, S3.out.bel⟩

/-- A literal without elements, onto which a list is appended. -/
theorem copyI {w W : World} {A : Option Addr} {c : Nat} {ys : List Int} (hy : RR encI w.heap.size (.slice A ys.length c) ys w) (hb : Below w.heap.size w W) (hl : ys.length ≤ 1000) :
  ∃ v' W', (Builtin.append_ #[25, 25] 25 #[.slice (some ⟨W.heap.size, 0, none⟩) 0 0, .slice A ys.length c]).run Try.prog (W.alloc (.cells #[] 3)) = .ok v' W' ∧ OwnG encI 1 3 W.heap.size v' ys W' ∧ Below W.heap.size W W' := by
 obtain ⟨i0, hz0, hj0, hj1, hj2⟩ := info_parts infoInt
 obtain ⟨W3, hW3⟩ : ∃ W3, W.alloc (.cells #[] 3) = W3 := ⟨_, rfl⟩
 have b3 : Below W.heap.size W W3 := by rw [← hW3]; exact (Below.refl _ _).alloc (Nat.le_refl _) _
 obtain ⟨v', W', r1, o1, g1, s1⟩ := app_list (P := Try.prog) (base := W.heap.size) EI Try.underlying25 hz0 hj0 hj1 hj2 rfl (OwnG.lit0 encI 1 3 (W := W3) (g := W.heap.size) (by rw [← hW3]; exact World.alloc_heap_new W _) (Nat.le_refl _)) hy (hb.trans (b3.mono hb.size)) b3.size (by simp) (by omega) (by decide)
 rw [hW3]
 exact ⟨v', W', r1, o1, b3.trans (g1.below (fun k hk => by simp [Value.ownBlock] at hk; omega) b3.size)⟩
/-- The least of some numbers that is enough, as a walk from the first one on finds it. -/
def LstIs (n : Nat) (pr : Nat → Bool) (a e : Int) : Prop := (∃ k : Nat, k < n ∧ a = k ∧ e = 0 ∧ pr k = true ∧ ∀ j, j < k → pr j = false) ∨ ((∀ j, j < n → pr j = false) ∧ a = 0 ∧ e = 5)
end Go.Proofs.Ytkoacclbempmdaa
