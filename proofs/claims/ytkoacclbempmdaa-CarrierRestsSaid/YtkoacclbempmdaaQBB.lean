/- Contracts of the specification's end and corner: how things are at an end of what flows. -/
import Derived.Test.YtkoacclbempmdaaQBA
import Derived.Test.YtkoacclbempmdaaOOH
import Derived.Test.YtkoacclbempmdaaOOI
import Derived.Test.YtkoacclbempmdaaOOJ
namespace Go.Proofs.Ytkoacclbempmdaa
open Go.RowKit

theorem sg1O {ws : Wk} {id : Int} {i : Nat} {p : Pl} (h : (allP ws)[i]? = some p) : (sigO ws id)[i]? = some (sgO (endE ws id) p) := by unfold sigO; rw [List.getElem?_map, h]; rfl
theorem sg1R {ws : Wk} {id : Int} {i : Nat} {p : Pl} (h : (allP ws)[i]? = some p) : (sigR ws id)[i]? = some (sgR (endE ws id) p) := by unfold sigR; rw [List.getElem?_map, h]; rfl
theorem sg1H (ws : Wk) (id : Int) : ∀ x ∈ sigH ws id, -1 ≤ x ∧ x ≤ 1 := fun x hx => by
 obtain ⟨c, -, rfl⟩ := List.mem_map.1 hx
 unfold sgH
 omega
theorem end_any (lo hi g : Int) (w : World) : Calls Try.prog 142 #[.agg #[.int .i64 lo, .int .i64 hi], .int .i64 g] w fun e w' => e = .returned (.int .i64 (if 0 < g then hi else lo)) ∧ Below w.heap.size w w' := by
 by_cases h : 0 < g
 ·rw [if_pos h]
  go_enter Try.func142, Try.ntmps142
  go_wp2_with fail
  go_ret
  exact ⟨rfl, (Below.refl _ _).alloc (Nat.le_refl _) _⟩
 ·rw [if_neg h]
  go_enter Try.func142, Try.ntmps142
  go_wp2_with fail
  go_ret
  exact ⟨rfl, (Below.refl _ _).alloc (Nat.le_refl _) _⟩
/-- One of some lists that a variable holds, with a further element. -/
theorem gl_next {g k : Nat} {us : List Value} {ls : List (List Int)} {u v4 : Value} {l : List Int} {y : Int} {Wb W w4 : World} (HG : GL g Wb.heap.size us ls W) (hu : us[k]? = some u) (hl : ls[k]? = some l) (hgr : GrownL [g] Wb W)
  (ho : OwnG encI 1 3 Wb.heap.size v4 (l ++ [y]) w4) (hg : GrownL u.ownBlock.toList W w4) (ha : v4.ownBlock = u.ownBlock ∨ ∃ n, v4.ownBlock = some n ∧ W.heap.size ≤ n) :
  GL g Wb.heap.size (us.set k v4) (ls.set k (l ++ [y])) (w4.setCell ⟨g, k, none⟩ v4) ∧ GrownL [g] Wb (w4.setCell ⟨g, k, none⟩ v4) ∧ w4.cell? ⟨g, k, none⟩ = some u ∧ w4.frozen? ⟨g, k, none⟩ = false := by
 have hlt := fun b (hb : b ∈ u.ownBlock.toList) => (HG.own hu (by simpa using hb))
 have hgb := HG.gb
 have hn4 : g ∉ u.ownBlock.toList := fun hm => by have := (hlt _ hm).1; omega
 refine ⟨HG.app hu hl hg ho ha, ?_, hg.cell (HG.c k u hu) hn4, (World.frozen?_of_block (a := ⟨g, k, none⟩) (hg.block _ HG.gl hn4)).trans (HG.f k)⟩
 exact hgr.newer ((hg.mono (bs' := g :: u.ownBlock.toList) (by simp +contextual)).trans (GrownL.set _ _ _ (by simp))) (fun b hb => (hlt b hb).1)
/-- What corner keeps besides its lists. -/
structure CoK (w : World) (v a b : Value) (W : World) : Prop where
 wk : W.cell? ⟨w.heap.size, 0, none⟩ = some v
 ca : W.cell? ⟨w.heap.size + 1, 0, none⟩ = some a
 cb : W.cell? ⟨w.heap.size + 1, 1, none⟩ = some b
 z0 : W.cell? ⟨w.heap.size + 1 + 1, 0, none⟩ = some (.slice none 0 0)
 z1 : W.cell? ⟨w.heap.size + 1 + 1, 1, none⟩ = some (.slice none 0 0)
 z2 : W.cell? ⟨w.heap.size + 1 + 1, 2, none⟩ = some (.slice none 0 0)
 z3 : W.cell? ⟨w.heap.size + 1 + 1, 3, none⟩ = some (.slice none 0 0)
 fz : ∀ i, W.frozen? ⟨w.heap.size + 1 + 1, i, none⟩ = false
 bel : Below w.heap.size w W
section
variable {w W W' : World} {v a b : Value}
theorem CoK.siz (h : CoK w v a b W) : w.heap.size + 3 ≤ W.heap.size := World.block_lt_of_cell? _ _ h.z0
theorem CoK.grown {bs : List Nat} (h : CoK w v a b W) (hg : GrownL bs W W') (hn : ∀ k ∈ bs, w.heap.size + 3 ≤ k) : CoK w v a b W' := by
 have n0 : ∀ k, k < w.heap.size + 3 → k ∉ bs := fun k hk hm => by have := hn k hm; omega
 have n1 := n0 w.heap.size (by omega)
 have n2 := n0 (w.heap.size + 1) (by omega)
 have n3 := n0 (w.heap.size + 1 + 1) (by omega)
 exact ⟨hg.cell h.wk n1, hg.cell h.ca n2, hg.cell h.cb n2, hg.cell h.z0 n3, hg.cell h.z1 n3, hg.cell h.z2 n3, hg.cell h.z3 n3,
  fun i => (World.frozen?_of_block (a := ⟨w.heap.size + 1 + 1, i, none⟩) (hg.block (w.heap.size + 1 + 1) (World.block_lt_of_cell? _ _ h.z0) n3)).trans (h.fz i), h.bel.trans (hg.below (fun k hk => by have := hn k hk; omega) h.bel.size)⟩
theorem CoK.below (h : CoK w v a b W) (hb : Below W.heap.size W W') : CoK w v a b W' := h.grown (GrownL.of_below (bs := []) hb) (by simp)
end
theorem endV_side {g way lo hi : Int} : (if 0 < -way * g then hi else lo) = endV g way lo hi := by
 unfold endV
 have : 0 < -way * g ↔ g * way < 0 := by rw [Int.neg_mul, Int.mul_comm]; omega
 simp only [this]

set_option maxHeartbeats 16000000 in
set_option maxRecDepth 1000000 in
theorem rcorner_any (A : Option Addr) (c : Nat) (cv : Value) (ws : Wk) (s : Ca) (i : Nat) (p : Pl) (way side : Int) (w : World) (h : RK w.heap.size (.slice A ws.length c) ws w) (hs : RCa w.heap.size cv s w) (hw : WOk ws) (hc : CaOk ws s)
  (hp : (allP ws)[i]? = some p) (hway : way = 1 ∨ way = -1) (hside : side = -way) :
  Calls Try.prog 140 #[.agg #[.slice A ws.length c], cv, .int .i64 i, .int .i64 side] w fun e w' => ∃ v, e = .returned v ∧ OW w.heap.size v (exW ws s (endE ws p.o.id) way) w' ∧ Below w.heap.size w w' := by
 obtain ⟨i0, hz0, hi1, hi2, hi3⟩ := info_parts infoInt
 obtain ⟨B1, b1, B2, b2, rfl⟩ := hs.form
 have ht : total ws ≤ 100000 := by have := hw.tot; omega
 have C1 := Lib.hid fun W (hb : Below w.heap.size w W) => rsigns_any A c ws i p W (h.up hb.size hb) hw hp
 have C2 := Lib.hid fun W (hb : Below w.heap.size w W) => routlets_any A ws.length c ws W (h.up hb.size hb) ht
 have H := Lib.hid h
 have HS := Lib.hid hs
 have HW := Lib.hid hw
 have HC := Lib.hid hc
 have HP := Lib.hid hp
 have HWAY := Lib.hid (And.intro hway hside)
 obtain ⟨W0, hW0⟩ : ∃ W0, ((((w.alloc (.cells #[.slice A ws.length c] 24)).alloc (.cells #[.slice B1 s.river.length b1, .slice B2 s.boards.length b2] 46)).alloc (.cells #[.slice none 0 0, .slice none 0 0, .slice none 0 0, .slice none 0 0] 27)).alloc (.cells #[.slice none 0 0, .slice none 0 0, .slice none 0 0, .slice none 0 0] 27)) = W0 := ⟨_, rfl⟩
 have K0 : Hid (CoK w (.slice A ws.length c) (.slice B1 s.river.length b1) (.slice B2 s.boards.length b2) W0) := Lib.hid (by rw [← hW0]; exact ⟨by simp [go_sem], by simp [go_sem], by simp [go_sem], by simp [go_sem], by simp [go_sem], by simp [go_sem], by simp [go_sem], fun i => by simp [go_sem], ((((Below.refl _ _).alloc (Nat.le_refl _) _).alloc (by simp) _).alloc (by simp; omega) _).alloc (by simp; omega) _⟩)
 have B0 : Hid ((∀ j, j < 4 → W0.cell? ⟨w.heap.size + 1 + 1 + 1, j, none⟩ = some (.slice none 0 0)) ∧ (∀ j, W0.frozen? ⟨w.heap.size + 1 + 1 + 1, j, none⟩ = false) ∧ W0.heap.size = w.heap.size + 4) := Lib.hid (by
  rw [← hW0]
  refine ⟨fun j hj => ?_, fun j => by simp [go_sem], by simp⟩
  match j, hj with
  | 0, _ => simp [go_sem]
  | 1, _ => simp [go_sem]
  | 2, _ => simp [go_sem]
  | 3, _ => simp [go_sem]
  | j + 4, hj => omega)
 have HW0 := Lib.hid hW0
 clear h hs hw hc ht hW0 hp hway hside
 go_enter Try.func140, Try.ntmps140
 go_upto_region 2 with fail
 rw [HW0.out]
 have x0 := K0.out.wk
 go_wp2_with fail
 refine (C1.out _ K0.out.bel).mono ?_
 rintro e w1 ⟨v1, v2, v3, rfl, o1, o2, o3, bb1⟩
 have K1 := Lib.hid (K0.out.below bb1)
 have hsl : total ws ≤ 60 := HW.out.tot
 have hh1 : (sigH ws p.o.id).length ≤ 16 := by have := headsL_len HW.out; simpa [sigH, headsL] using this
 have hh2 : (sigO ws p.o.id).length ≤ 60 := by simp [sigO, allP_len]; exact hsl
 have hh3 : (sigR ws p.o.id).length ≤ 60 := by simp [sigR, allP_len]; exact hsl
 have OB : Hid ((∀ b, v1.ownBlock = some b → w.heap.size + 4 ≤ b) ∧ (∀ b, v2.ownBlock = some b → w.heap.size + 4 ≤ b) ∧ (∀ b, v3.ownBlock = some b → w.heap.size + 4 ≤ b)) := Lib.hid (by have := B0.out.2.2; exact ⟨fun b hb => by have := (o1.lt b hb).1; omega, fun b hb => by have := (o2.lt b hb).1; omega, fun b hb => by have := (o3.lt b hb).1; omega⟩)
 have R1 := Lib.hid (o1.rr EI (by omega))
 have R2 := Lib.hid (o2.rr EI (by omega))
 have R3 := Lib.hid (o3.rr EI (by omega))
 obtain ⟨G1, g1, rfl, -⟩ := o1.form
 obtain ⟨G2, g2, rfl, -⟩ := o2.form
 obtain ⟨G3_, g3, rfl, -⟩ := o3.form
 have HL1 : Hid ((sigH ws p.o.id).length = s.river.length) := Lib.hid (by rw [HC.out.r]; simp [sigH, headsL])
 have HL2 : Hid ((sigO ws p.o.id).length = total ws) := Lib.hid (by simp [sigO, allP_len])
 have HL3 : Hid ((sigR ws p.o.id).length = total ws) := Lib.hid (by simp [sigR, allP_len])
 obtain ⟨m1, hm1⟩ : ∃ m, (sigH ws p.o.id).length = m := ⟨_, rfl⟩
 obtain ⟨m2, hm2⟩ : ∃ m, (sigO ws p.o.id).length = m := ⟨_, rfl⟩
 obtain ⟨m3, hm3⟩ : ∃ m, (sigR ws p.o.id).length = m := ⟨_, rfl⟩
 have HM1 := Lib.hid hm1
 rw [hm1] at R1 OB HL1
 rw [hm2] at R2 OB HL2
 rw [hm3] at R3 OB HL3
 rw [hm1, hm2, hm3]
 obtain ⟨W2, hW2⟩ : ∃ W2, w1.alloc (.cells #[.slice G1 m1 g1, .slice G2 m2 g2, .slice G3_ m3 g3, .int .i64 0] 94) = W2 := ⟨_, rfl⟩
 have bW2 : Below w1.heap.size w1 W2 := by rw [← hW2]; exact (Below.refl _ _).alloc (Nat.le_refl _) _
 have K2 := Lib.hid (K1.out.below bW2)
 have Q2 : Hid (W2.cell? ⟨w1.heap.size, 0, none⟩ = some (.slice G1 m1 g1) ∧ W2.cell? ⟨w1.heap.size, 1, none⟩ = some (.slice G2 m2 g2) ∧ W2.cell? ⟨w1.heap.size, 2, none⟩ = some (.slice G3_ m3 g3) ∧ w.heap.size + 4 ≤ w1.heap.size ∧ Below W0.heap.size W0 W2) := Lib.hid (by have h4 := B0.out.2.2; have h5 := bb1.size; rw [← hW2]; exact ⟨by simp [go_sem], by simp [go_sem], by simp [go_sem], by omega, bb1.alloc bb1.size _⟩)
 replace R1 := Lib.hid (R1.out.up bW2.size bW2)
 replace R2 := Lib.hid (R2.out.up bW2.size bW2)
 replace R3 := Lib.hid (R3.out.up bW2.size bW2)
 have x0 : (w1.alloc (.cells #[.slice G1 m1 g1, .slice G2 m2 g2, .slice G3_ m3 g3, .int .i64 0] 94)).cell? ⟨w.heap.size, 0, none⟩ = some (.slice A ws.length c) := by rw [hW2]; exact K2.out.wk
 have HW2 := Lib.hid hW2
 clear o1 o2 o3 bb1 hm1 hm2 hm3 hh1 hh2 hh3 hW2 bW2 C1
 go_wp2_with fail
 rw [HW2.out]
 refine (C2.out _ K2.out.bel).mono ?_
 rintro e w3 ⟨lv, rfl, hlv, b3⟩
 have K3 := Lib.hid (K2.out.below b3)
 have Q3 : Hid (w3.cell? ⟨w1.heap.size, 0, none⟩ = some (.slice G1 m1 g1) ∧ w3.cell? ⟨w1.heap.size, 1, none⟩ = some (.slice G2 m2 g2) ∧ w3.cell? ⟨w1.heap.size, 2, none⟩ = some (.slice G3_ m3 g3) ∧ w.heap.size + 4 ≤ w1.heap.size ∧ Below W0.heap.size W0 w3) := Lib.hid ⟨BelS.c b3 Q2.out.1, BelS.c b3 Q2.out.2.1, BelS.c b3 Q2.out.2.2.1, Q2.out.2.2.2.1, Q2.out.2.2.2.2.trans (b3.mono Q2.out.2.2.2.2.size)⟩
 replace R1 := Lib.hid (R1.out.up b3.size b3)
 replace R2 := Lib.hid (R2.out.up b3.size b3)
 replace R3 := Lib.hid (R3.out.up b3.size b3)
 have OL : Hid (∀ b, lv.ownBlock = some b → w.heap.size + 4 ≤ b) := Lib.hid (fun b hb => by have := (hlv.lt b hb).1; have h9 : w1.heap.size < W2.heap.size := World.block_lt_of_cell? _ _ Q2.out.1; have := Q2.out.2.2.2.1; omega)
 have RL := Lib.hid (rl_in hlv (H.out.up K2.out.bel.size K2.out.bel) b3 b3.size (by omega))
 obtain ⟨Al, cl, rfl, -⟩ := hlv.form
 have hol := outs_len ws
 rw [hol] at RL OL ⊢
 obtain ⟨nt, hnt⟩ : ∃ nt, total ws = nt := ⟨_, rfl⟩
 have HNT := Lib.hid hnt
 rw [hnt] at RL OL HL2 HL3 hsl ⊢
 have hntt : (nt : Int) ≤ 60 := by omega
 have EV : Hid (∀ g lo hi : Int, (if 0 < side * g then hi else lo) = endV g way lo hi) := Lib.hid (fun g lo hi => by rw [HWAY.out.2]; exact endV_side)
 have HSD : Hid (side = 1 ∨ side = -1) := Lib.hid (by rcases HWAY.out with ⟨h | h, h2⟩ <;> omega)
 have G0 : Hid (GL (w.heap.size + 1 + 1 + 1) w3.heap.size [.slice none 0 0, .slice none 0 0, .slice none 0 0, .slice none 0 0] [[], [], [], []] w3) := Lib.hid (by
  have hc := fun (p : Addr) (h : p.block < W0.heap.size) => Q3.out.2.2.2.2.cell (p := p) h
  have hl : w.heap.size + 1 + 1 + 1 < W0.heap.size := by have := B0.out.2.2; omega
  have h9 := Q3.out.2.2.2.2.size
  exact GL.nils (by omega) (by omega) 4 (fun k hk => (hc ⟨_, k, none⟩ hl).trans (B0.out.1 k hk)) (fun k => (Q3.out.2.2.2.2.frozen (p := ⟨w.heap.size + 1 + 1 + 1, k, none⟩) hl).trans (B0.out.2.1 k)))
 have HSB : Hid (w.heap.size + 4 ≤ w3.heap.size) := Lib.hid (by have := Q3.out.2.2.2.2.size; have := B0.out.2.2; omega)
 have h16 : s.river.length ≤ 16 := by have := HC.out.r; have := headsL_len HW.out; simp [headsL] at *; omega
 have h160 : (s.river.length : Int) ≤ 16 := by omega
 have LV : Hid ((exW ws s (endE ws p.o.id) way).river.length = s.river.length ∧ (exW ws s (endE ws p.o.id) way).boards.length = nt ∧ (exW ws s (endE ws p.o.id) way).leaks.length = nt ∧ (exW ws s (endE ws p.o.id) way).losses.length = nt) := Lib.hid ⟨rv_len _ _ _ _, by simp [exW, allP_len, hnt], by simp [exW, allP_len, hnt], by simp [exW, allP_len, hnt]⟩
 have AT0 : Hid (∀ (i : Nat) (g : Int) (x : Int × Int), (sigH ws p.o.id)[i]? = some g → s.river[i]? = some x → (exW ws s (endE ws p.o.id) way).river[i]? = some (endV g way x.1 x.2)) := Lib.hid (fun i g x hg hx => rv_at (by rw [← hg]; rfl) hx)
 have AT1 : Hid (∀ (i : Nat) (p' : Pl) (x : Int × Int), (allP ws)[i]? = some p' → s.boards[i]? = some x → (exW ws s (endE ws p.o.id) way).boards[i]? = some (endV (sgO (endE ws p.o.id) p') way x.1 x.2) ∧ (exW ws s (endE ws p.o.id) way).leaks[i]? = some (endV (sgO (endE ws p.o.id) p') way p'.o.k0 p'.o.k1) ∧ (exW ws s (endE ws p.o.id) way).losses[i]? = some (endV (sgR (endE ws p.o.id) p') way p'.o.s0 p'.o.s1)) := Lib.hid (fun i p' x hp hx => ⟨bd_at hp hx, lk_at hp, ls_at hp⟩)
 obtain ⟨X, hX⟩ : ∃ X, exW ws s (endE ws p.o.id) way = X := ⟨_, rfl⟩
 rw [hX] at LV AT0 AT1
 have HX := Lib.hid hX
 clear hlv b3 hnt hol hX K0 K1 K2 Q2 C2 x0 HW2
 go_wp2_with fail
 go_loopw [12] (fun i wr => ∃ (k : Nat) (u : Value), i = .int .i64 k ∧ k ≤ s.river.length ∧ GL (w.heap.size + 1 + 1 + 1) w3.heap.size [u, .slice none 0 0, .slice none 0 0, .slice none 0 0] [X.river.take k, [], [], []] wr ∧ GrownL [w.heap.size + 1 + 1 + 1] w3 wr) (fun i _ => s.river.length - (intOf i).toNat)
 case atStart => exact ⟨0, _, rfl, by omega, G0.out, GrownL.refl _ _⟩
 case round =>
  obtain ⟨k, u, rfl, hk, hG, hgr⟩ := hrel
  have HG := Lib.hid hG
  have HGR := Lib.hid hgr
  have KK := Lib.hid (K3.out.grown hgr (by simp))
  have x1 := KK.out.ca
  have x2 := KK.out.cb
  clear hG hgr
  by_cases hkl : k < s.river.length
  ·have hk0 : (k : Int) < (s.river.length : Int) := by omega
   obtain ⟨⟨lo, hi_⟩, hx⟩ : ∃ x, s.river[k]? = some x := ⟨_, List.getElem?_eq_getElem hkl⟩
   obtain ⟨g, hg⟩ : ∃ g, (sigH ws p.o.id)[k]? = some g := ⟨_, List.getElem?_eq_getElem (by have := HL1.out; have := HM1.out; omega)⟩
   have hgb : -1 ≤ g ∧ g ≤ 1 := sg1H _ _ _ (List.mem_of_getElem? hg)
   have HNX : Hid (X.river.take (k + 1) = X.river.take k ++ [endV g way lo hi_]) := Lib.hid (take_at (AT0.out k g (lo, hi_) hg hx))
   obtain ⟨br, or_, rfl, hbr, q1, q2⟩ := HS.out.parts.1.span hx
   obtain ⟨bg, og, rfl, hbg, q3⟩ := R1.out.int hg
   simp only at q1 q2
   have FACTS : Hid (∀ bs W, (∀ b ∈ bs, b = w.heap.size + 1 + 1 + 1 ∨ w3.heap.size ≤ b) → GrownL bs w3 W → W.cell? ⟨w.heap.size + 1, 0, none⟩ = some (.slice (some ⟨br, or_, none⟩) s.river.length b1) ∧ W.cell? ⟨br, or_ + k * 2, none⟩ = some (.int .i64 lo) ∧ W.cell? ⟨br, or_ + k * 2 + 1, none⟩ = some (.int .i64 hi_) ∧ W.cell? ⟨w1.heap.size, 0, none⟩ = some (.slice (some ⟨bg, og, none⟩) m1 g1) ∧ W.cell? ⟨bg, og + k, none⟩ = some (.int .i64 g)) := Lib.hid (fun bs W hbs hW => by
    have n0 : ∀ b, b < w3.heap.size → b ≠ w.heap.size + 1 + 1 + 1 → b ∉ bs := fun b h1 h2 hm => by rcases hbs b hm with e | e <;> omega
    have hz := HSB.out
    have hz1 := Q3.out.2.2.2.1
    have hz2 : w1.heap.size < w3.heap.size := World.block_lt_of_cell? _ _ Q3.out.1
    have hog := OB.out.1 bg rfl
    exact ⟨hW.cell K3.out.ca (n0 _ (by show w.heap.size + 1 < _; omega) (by show w.heap.size + 1 ≠ _; omega)), hW.cell (BelS.c K3.out.bel q1) (n0 _ (by show br < _; omega) (by show br ≠ _; omega)), hW.cell (BelS.c K3.out.bel q2) (n0 _ (by show br < _; omega) (by show br ≠ _; omega)), hW.cell Q3.out.1 (n0 _ (by show w1.heap.size < _; omega) (by show w1.heap.size ≠ _; omega)), hW.cell q3 (n0 _ (by show bg < _; omega) (by show bg ≠ _; omega))⟩)
   have wm : IntKind.i64.wrap (side * g) = side * g := IntWalk.i64_in _ (by rcases HSD.out with e | e <;> subst e <;> omega)
   have HKK : Hid ((X.river.take k).length = k) := Lib.hid (by rw [List.length_take, LV.out.1]; omega)
   have hkm : (k : Int) < (m1 : Int) := by have := HL1.out; omega
   have hk60 : k ≤ 60 := by omega
   clear hx hg q1 q2 q3 hbr
   go_upto_region 7 with fail
   obtain ⟨Uk, dk, hUk, -⟩ := (HG.out.o 0 _ _ rfl rfl).form
   rw [HKK.out] at hUk
   subst hUk
   obtain ⟨l0, hl0⟩ : ∃ l, X.river.take k = l := ⟨_, rfl⟩
   rw [hl0] at HG HKK HNX
   clear hl0
   obtain ⟨Wd, hWd⟩ : ∃ Wd, World.drew wr = Wd := ⟨_, rfl⟩
   have gWd : GrownL [] wr Wd := by rw [← hWd]; exact (GrownL.refl _ _).drew
   have HGd := Lib.hid (HG.out.grown gWd (by simp) (by simp))
   have HGRd : Hid (GrownL [w.heap.size + 1 + 1 + 1] w3 Wd) := Lib.hid (HGR.out.trans (gWd.mono (by simp)))
   have OWN : Hid (∀ b ∈ (Value.slice Uk k dk).ownBlock.toList, w3.heap.size ≤ b ∧ b < Wd.heap.size) := Lib.hid (fun b hb => HGd.out.own (k := 0) rfl (by simpa using hb))
   have KEEP : Hid (∀ W', GrownL (Value.slice Uk k dk).ownBlock.toList Wd W' → (W'.cell? ⟨w.heap.size + 1, 0, none⟩ = some (.slice (some ⟨br, or_, none⟩) s.river.length b1) ∧ W'.cell? ⟨br, or_ + k * 2, none⟩ = some (.int .i64 lo) ∧ W'.cell? ⟨br, or_ + k * 2 + 1, none⟩ = some (.int .i64 hi_) ∧ W'.cell? ⟨w1.heap.size, 0, none⟩ = some (.slice (some ⟨bg, og, none⟩) m1 g1) ∧ W'.cell? ⟨bg, og + k, none⟩ = some (.int .i64 g)) ∧ W'.cell? ⟨w.heap.size + 1 + 1 + 1, 0, none⟩ = some (.slice Uk k dk) ∧ W'.frozen? ⟨w.heap.size + 1 + 1 + 1, 0, none⟩ = false ∧ Wd.heap.size ≤ W'.heap.size) := Lib.hid (fun W' hW => by
    have hz := HSB.out
    have hn : w.heap.size + 1 + 1 + 1 ∉ (Value.slice Uk k dk).ownBlock.toList := fun hm => by have := (OWN.out _ hm).1; omega
    exact ⟨FACTS.out ((w.heap.size + 1 + 1 + 1) :: (Value.slice Uk k dk).ownBlock.toList) W' (fun b hb => by
     rcases List.mem_cons.1 hb with e | hb
     ·exact .inl e
     ·exact .inr (OWN.out b hb).1) ((HGRd.out.mono (by simp)).trans (hW.mono (by simp +contextual))), hW.cell (HGd.out.c 0 _ rfl) hn, (World.frozen?_of_block (a := ⟨w.heap.size + 1 + 1 + 1, 0, none⟩) (hW.block _ HGd.out.gl hn)).trans (HGd.out.f 0), hW.size⟩)
   have HWd := Lib.hid hWd
   clear hWd gWd
   refine wp_region_T 18 (S := GrownL (Value.slice Uk k dk).ownBlock.toList (World.drew wr)) (by kernel_rfl) (GrownL.refl _ _) (fun J0 => ?_)
   rw [HWd.out] at J0 ⊢
   refine tt 0 26 J0 ?_ (hy := by intro w' hSw; obtain ⟨⟨q0, q1, q2, q3, q4⟩, qu, -, -⟩ := KEEP.out w' hSw; go_simp; try with_reducible rfl)
   try simp only [aS]
   refine tt 1 27 J0 ?_ (hy := by intro w' hSw; obtain ⟨⟨q0, q1, q2, q3, q4⟩, qu, -, -⟩ := KEEP.out w' hSw; go_simp; try with_reducible rfl)
   try simp only [aS]
   refine tt 2 28 J0 ?_ (hy := by intro w' hSw; obtain ⟨⟨q0, q1, q2, q3, q4⟩, qu, -, -⟩ := KEEP.out w' hSw; go_simp; try with_reducible rfl)
   try simp only [aS]
   refine tt 3 29 J0 ?_ (hy := by intro w' hSw; obtain ⟨⟨q0, q1, q2, q3, q4⟩, qu, -, -⟩ := KEEP.out w' hSw; go_simp; try with_reducible rfl)
   try simp only [aS]
   refine tt 4 30 J0 ?_ (hy := by intro w' hSw; obtain ⟨⟨q0, q1, q2, q3, q4⟩, qu, -, -⟩ := KEEP.out w' hSw; go_simp; try with_reducible rfl)
   try simp only [aS]
   refine tt 5 31 J0 ?_ (hy := by intro w' hSw; obtain ⟨⟨q0, q1, q2, q3, q4⟩, qu, -, -⟩ := KEEP.out w' hSw; go_simp; try with_reducible rfl)
   try simp only [aS]
   refine tt 6 32 J0 ?_ (hy := by intro w' hSw; obtain ⟨⟨q0, q1, q2, q3, q4⟩, qu, -, -⟩ := KEEP.out w' hSw; go_simp; try with_reducible rfl)
   try simp only [aS]
   refine tt 7 33 J0 ?_ (hy := by intro w' hSw; obtain ⟨⟨q0, q1, q2, q3, q4⟩, qu, -, -⟩ := KEEP.out w' hSw; go_simp; try with_reducible rfl)
   try simp only [aS]
   refine tt 8 34 J0 ?_ (hy := by intro w' hSw; obtain ⟨⟨q0, q1, q2, q3, q4⟩, qu, -, -⟩ := KEEP.out w' hSw; go_simp; try with_reducible rfl)
   try simp only [aS]
   refine tt 9 35 J0 ?_ (hy := by intro w' hSw; obtain ⟨⟨q0, q1, q2, q3, q4⟩, qu, -, -⟩ := KEEP.out w' hSw; go_simp; try with_reducible rfl)
   try simp only [aS]
   refine tt 10 36 J0 ?_ (hy := by intro w' hSw; obtain ⟨⟨q0, q1, q2, q3, q4⟩, qu, -, -⟩ := KEEP.out w' hSw; go_simp; try with_reducible rfl)
   try simp only [aS]
   refine tt 11 37 J0 ?_ (hy := by intro w' hSw; obtain ⟨⟨q0, q1, q2, q3, q4⟩, qu, -, -⟩ := KEEP.out w' hSw; go_simp; try with_reducible rfl)
   try simp only [aS]
   refine tt 12 38 J0 ?_ (hy := by intro w' hSw; obtain ⟨⟨q0, q1, q2, q3, q4⟩, qu, -, -⟩ := KEEP.out w' hSw; go_simp; try with_reducible rfl)
   try simp only [aS]
   refine tt 13 39 J0 ?_ (hy := by intro w' hSw; obtain ⟨⟨q0, q1, q2, q3, q4⟩, qu, -, -⟩ := KEEP.out w' hSw; go_simp; try with_reducible rfl)
   try simp only [aS]
   refine oneT (i := 14) (by kernel_rfl) rfl (fun K hK => ?_)
   go_simp
   refine (end_any _ _ _ _).mono ?_
   rintro e wq ⟨rfl, bq⟩
   rw [EV.out]
   have J1 := J0.trans (GrownL.of_below (bs := (Value.slice Uk k dk).ownBlock.toList) bq)
   refine hK.out _ _ J1 ?_
   clear hK K
   try simp only [aS]
   refine oneT (i := 15) (by kernel_rfl) rfl (fun K hK => ?_)
   go_simp
   have J2 : GrownL (Value.slice Uk k dk).ownBlock.toList Wd (wq.alloc (.cells #[.int .i64 (endV g way lo hi_)] 3)) := J1.trans (GrownL.of_below ((Below.refl _ _).alloc (Nat.le_refl _) _))
   refine hK.out _ _ J2 ?_
   clear hK K
   try simp only [aS]
   refine oneT (i := 16) (by kernel_rfl) rfl (fun K hK => ?_)
   refine step_appA rfl _ _ rfl w3.heap.size (Value.slice Uk k dk) l0 rfl (((HGd.out.o 0 _ _ rfl rfl).below bq).below ((Below.refl _ _).alloc (Nat.le_refl _) _)) (by have := HKK.out; omega) wq.heap.size (endV g way lo hi_) rfl (by simp [go_sem]) (by have := HGRd.out.size; have := bq.size; simp; omega) (fun v4 w4 ho4 g4 ha4 => ?_)
   have J3 := J2.trans g4
   obtain ⟨y4, z4⟩ : w4.cell? ⟨w.heap.size + 1 + 1 + 1, 0, none⟩ = some (.slice Uk k dk) ∧ w4.frozen? ⟨w.heap.size + 1 + 1 + 1, 0, none⟩ = false := ⟨(KEEP.out _ J3).2.1, (KEEP.out _ J3).2.2.1⟩
   obtain ⟨hG2, hgr2, -, -⟩ := gl_next (k := 0) HGd.out rfl rfl HGRd.out ho4 J3 (ha4.imp (fun h => h) (fun ⟨n, e, hn⟩ => ⟨n, e, by have := J1.size; simp at hn; omega⟩))
   obtain ⟨A4, c4, rfl, -⟩ := ho4.form
   obtain ⟨n4, hn4⟩ : ∃ n4, (l0 ++ [endV g way lo hi_]).length = n4 := ⟨_, rfl⟩
   rw [hn4] at hG2 hgr2 ⊢
   clear ho4 g4 ha4 hn4
   try go_simp
   refine hK.out _ _ J3 ?_
   clear hK K
   try simp only [aS]
   refine tt 17 43 J3 ?_
   try simp only [aS]
   refine lastT (by kernel_rfl) rfl (fun K hK => ?_)
   go_simp
   refine hK.out _ _ ?_
   clear hK K
   try simp only [aS]
   refine doneT (by kernel_rfl) ?_ _
   obtain ⟨Wn, hWn⟩ : ∃ Wo, w4.setCell ⟨w.heap.size + 1 + 1 + 1, 0, none⟩ (.slice A4 n4 c4) = Wo := ⟨_, rfl⟩
   have HWn_ := Lib.hid hWn
   rw [hWn] at hG2 hgr2 ⊢
   clear hWn J0 J1 J2 J3 bq y4 z4 KEEP OWN HWd HGd HGRd HG HGR
   replace hG2 := Lib.hid hG2
   replace hgr2 := Lib.hid hgr2
   go_wp2_with fail
   go_roundw
   case rel => exact ⟨k + 1, _, by go_num, by omega, by rw [HNX.out]; exact hG2.out, hgr2.out⟩
   case measure => show s.river.length - ((k : Int) + 1).toNat < s.river.length - (k : Int).toNat; omega
  ·have hk0 : (s.river.length : Int) ≤ (k : Int) := by omega
   obtain rfl : k = s.river.length := by omega
   have HG0 : Hid (GL (w.heap.size + 1 + 1 + 1) w3.heap.size [u, .slice none 0 0, .slice none 0 0, .slice none 0 0] [X.river, [], [], []] wr) := Lib.hid (by have := HG.out; rwa [List.take_of_length_le (by rw [LV.out.1]; exact Nat.le_refl _)] at this)
   clear HG
   go_wp2_with fail
   go_loopw [13] (fun i wx => ∃ (k : Nat) (u1 u2 u3 : Value), i = .int .i64 k ∧ k ≤ nt ∧ GL (w.heap.size + 1 + 1 + 1) w3.heap.size [u, u1, u2, u3] [X.river, X.boards.take k, X.leaks.take k, X.losses.take k] wx ∧ GrownL [w.heap.size + 1 + 1 + 1] w3 wx) (fun i _ => nt - (intOf i).toNat)
   case atStart => exact ⟨0, _, _, _, rfl, by omega, HG0.out, HGR.out⟩
   case round =>
    obtain ⟨k, u1, u2, u3, rfl, hk', hG, hgr⟩ := hrel
    have HG := Lib.hid hG
    replace HGR := Lib.hid hgr
    replace KK := Lib.hid (K3.out.grown hgr (by simp))
    clear hG hgr x1 x2 HG0
    by_cases hkl : k < nt
    ·have hk0 : (k : Int) < (nt : Int) := by omega
     have hkb : (k : Int) < (s.boards.length : Int) := by have := HC.out.b; have := HNT.out; omega
     obtain ⟨⟨lo, hi_⟩, hx⟩ : ∃ x, s.boards[k]? = some x := ⟨_, List.getElem?_eq_getElem (by omega)⟩
     obtain ⟨p', hp'⟩ := at_total (ws := ws) (n := k) (by have := HNT.out; omega)
     have ho := (outs_get hp').1
     have hg2 := sg1O (id := p.o.id) hp'
     have hg3 := sg1R (id := p.o.id) hp'
     obtain ⟨a1, a2, a3⟩ := AT1.out k p' (lo, hi_) hp' hx
     obtain ⟨ga, hga⟩ : ∃ g, sgO (endE ws p.o.id) p' = g := ⟨_, rfl⟩
     obtain ⟨gb, hgb⟩ : ∃ g, sgR (endE ws p.o.id) p' = g := ⟨_, rfl⟩
     have hgab : -1 ≤ ga ∧ ga ≤ 1 := by rw [← hga]; exact sgO_b _ _
     have hgbb : -1 ≤ gb ∧ gb ≤ 1 := by rw [← hgb]; exact sgR_b _ _
     rw [hga] at hg2 a1 a2
     rw [hgb] at hg3 a3
     have HNX1 : Hid (X.boards.take (k + 1) = X.boards.take k ++ [endV ga way lo hi_]) := Lib.hid (take_at a1)
     have HNX2 : Hid (X.leaks.take (k + 1) = X.leaks.take k ++ [endV ga way p'.o.k0 p'.o.k1]) := Lib.hid (take_at a2)
     have HNX3 : Hid (X.losses.take (k + 1) = X.losses.take k ++ [endV gb way p'.o.s0 p'.o.s1]) := Lib.hid (take_at a3)
     obtain ⟨br, or_, rfl, hbr, q1, q2⟩ := HS.out.parts.2.span hx
     obtain ⟨bg, og, rfl, hbg, q3⟩ := R2.out.int hg2
     obtain ⟨bh, oh, rfl, hbh, q4⟩ := R3.out.int hg3
     obtain ⟨bo, oo, rfl, hbo, hca⟩ := ro_at RL.out ho
     have q5 := hca.k0
     have q6 := hca.k1
     have q7 := hca.s0
     have q8 := hca.s1
     simp only at q1 q2
     obtain ⟨k0, hk0e⟩ : ∃ x, p'.o.k0 = x := ⟨_, rfl⟩
     obtain ⟨k1, hk1e⟩ : ∃ x, p'.o.k1 = x := ⟨_, rfl⟩
     obtain ⟨s0, hs0e⟩ : ∃ x, p'.o.s0 = x := ⟨_, rfl⟩
     obtain ⟨s1, hs1e⟩ : ∃ x, p'.o.s1 = x := ⟨_, rfl⟩
     rw [hk0e] at q5 HNX2
     rw [hk1e] at q6 HNX2
     rw [hs0e] at q7 HNX3
     rw [hs1e] at q8 HNX3
     have FACTS : Hid (∀ bs W, (∀ b ∈ bs, b = w.heap.size + 1 + 1 + 1 ∨ w3.heap.size ≤ b) → GrownL bs w3 W → W.cell? ⟨w.heap.size + 1, 1, none⟩ = some (.slice (some ⟨br, or_, none⟩) s.boards.length b2) ∧ W.cell? ⟨br, or_ + k * 2, none⟩ = some (.int .i64 lo) ∧ W.cell? ⟨br, or_ + k * 2 + 1, none⟩ = some (.int .i64 hi_) ∧ W.cell? ⟨w1.heap.size, 1, none⟩ = some (.slice (some ⟨bg, og, none⟩) m2 g2) ∧ W.cell? ⟨bg, og + k, none⟩ = some (.int .i64 ga) ∧ W.cell? ⟨w1.heap.size, 2, none⟩ = some (.slice (some ⟨bh, oh, none⟩) m3 g3) ∧ W.cell? ⟨bh, oh + k, none⟩ = some (.int .i64 gb) ∧ W.cell? ⟨bo, oo + k * 7 + 3, none⟩ = some (.int .i64 k0) ∧ W.cell? ⟨bo, oo + k * 7 + 4, none⟩ = some (.int .i64 k1) ∧ W.cell? ⟨bo, oo + k * 7 + 5, none⟩ = some (.int .i64 s0) ∧ W.cell? ⟨bo, oo + k * 7 + 6, none⟩ = some (.int .i64 s1)) := Lib.hid (fun bs W hbs hW => by
      have n0 : ∀ b, b < w3.heap.size → b ≠ w.heap.size + 1 + 1 + 1 → b ∉ bs := fun b h1 h2 hm => by rcases hbs b hm with e | e <;> omega
      have hz := HSB.out
      have hz1 := Q3.out.2.2.2.1
      have hz2 : w1.heap.size < w3.heap.size := World.block_lt_of_cell? _ _ Q3.out.1
      have hog := OB.out.2.1 bg rfl
      have hoh := OB.out.2.2 bh rfl
      have hoo := OL.out bo rfl
      exact ⟨hW.cell K3.out.cb (n0 _ (by show w.heap.size + 1 < _; omega) (by show w.heap.size + 1 ≠ _; omega)), hW.cell (BelS.c K3.out.bel q1) (n0 _ (by show br < _; omega) (by show br ≠ _; omega)), hW.cell (BelS.c K3.out.bel q2) (n0 _ (by show br < _; omega) (by show br ≠ _; omega)), hW.cell Q3.out.2.1 (n0 _ (by show w1.heap.size < _; omega) (by show w1.heap.size ≠ _; omega)), hW.cell q3 (n0 _ (by show bg < _; omega) (by show bg ≠ _; omega)), hW.cell Q3.out.2.2.1 (n0 _ (by show w1.heap.size < _; omega) (by show w1.heap.size ≠ _; omega)), hW.cell q4 (n0 _ (by show bh < _; omega) (by show bh ≠ _; omega)), hW.cell q5 (n0 _ (by show bo < _; omega) (by show bo ≠ _; omega)), hW.cell q6 (n0 _ (by show bo < _; omega) (by show bo ≠ _; omega)), hW.cell q7 (n0 _ (by show bo < _; omega) (by show bo ≠ _; omega)), hW.cell q8 (n0 _ (by show bo < _; omega) (by show bo ≠ _; omega))⟩)
     have wm1 : IntKind.i64.wrap (side * ga) = side * ga := IntWalk.i64_in _ (by rcases HSD.out with e | e <;> subst e <;> omega)
     have wm2 : IntKind.i64.wrap (side * gb) = side * gb := IntWalk.i64_in _ (by rcases HSD.out with e | e <;> subst e <;> omega)
     have HKK1 : Hid ((X.boards.take k).length = k) := Lib.hid (by rw [List.length_take, LV.out.2.1]; omega)
     have HKK2 : Hid ((X.leaks.take k).length = k) := Lib.hid (by rw [List.length_take, LV.out.2.2.1]; omega)
     have HKK3 : Hid ((X.losses.take k).length = k) := Lib.hid (by rw [List.length_take, LV.out.2.2.2]; omega)
     have hkm1 : (k : Int) < (m2 : Int) := by have := HL2.out; omega
     have hkm2 : (k : Int) < (m3 : Int) := by have := HL3.out; omega
     have hk60 : k ≤ 60 := by omega
     clear hx hp' ho hg2 hg3 a1 a2 a3 hga hgb q1 q2 q3 q4 q5 q6 q7 q8 hca hbr hk0e hk1e hs0e hs1e
     have HKK := HKK1
     have HNX := HNX1
     go_upto_region 11 with fail
     obtain ⟨Uk, dk, hUk, -⟩ := (HG.out.o 1 _ _ rfl rfl).form
     rw [HKK.out] at hUk
     subst hUk
     obtain ⟨l1, hl1⟩ : ∃ l, X.boards.take k = l := ⟨_, rfl⟩
     rw [hl1] at HG HKK HNX
     clear hl1
     obtain ⟨Wd, hWd⟩ : ∃ Wd, World.drew wr = Wd := ⟨_, rfl⟩
     have gWd : GrownL [] wr Wd := by rw [← hWd]; exact (GrownL.refl _ _).drew
     have HGd := Lib.hid (HG.out.grown gWd (by simp) (by simp))
     have HGRd : Hid (GrownL [w.heap.size + 1 + 1 + 1] w3 Wd) := Lib.hid (HGR.out.trans (gWd.mono (by simp)))
     have OWN : Hid (∀ b ∈ (Value.slice Uk k dk).ownBlock.toList, w3.heap.size ≤ b ∧ b < Wd.heap.size) := Lib.hid (fun b hb => HGd.out.own (k := 1) rfl (by simpa using hb))
     have KEEP : Hid (∀ W', GrownL (Value.slice Uk k dk).ownBlock.toList Wd W' → (W'.cell? ⟨w.heap.size + 1, 1, none⟩ = some (.slice (some ⟨br, or_, none⟩) s.boards.length b2) ∧ W'.cell? ⟨br, or_ + k * 2, none⟩ = some (.int .i64 lo) ∧ W'.cell? ⟨br, or_ + k * 2 + 1, none⟩ = some (.int .i64 hi_) ∧ W'.cell? ⟨w1.heap.size, 1, none⟩ = some (.slice (some ⟨bg, og, none⟩) m2 g2) ∧ W'.cell? ⟨bg, og + k, none⟩ = some (.int .i64 ga) ∧ W'.cell? ⟨w1.heap.size, 2, none⟩ = some (.slice (some ⟨bh, oh, none⟩) m3 g3) ∧ W'.cell? ⟨bh, oh + k, none⟩ = some (.int .i64 gb) ∧ W'.cell? ⟨bo, oo + k * 7 + 3, none⟩ = some (.int .i64 k0) ∧ W'.cell? ⟨bo, oo + k * 7 + 4, none⟩ = some (.int .i64 k1) ∧ W'.cell? ⟨bo, oo + k * 7 + 5, none⟩ = some (.int .i64 s0) ∧ W'.cell? ⟨bo, oo + k * 7 + 6, none⟩ = some (.int .i64 s1)) ∧ W'.cell? ⟨w.heap.size + 1 + 1 + 1, 1, none⟩ = some (.slice Uk k dk) ∧ W'.frozen? ⟨w.heap.size + 1 + 1 + 1, 1, none⟩ = false ∧ Wd.heap.size ≤ W'.heap.size) := Lib.hid (fun W' hW => by
      have hz := HSB.out
      have hn : w.heap.size + 1 + 1 + 1 ∉ (Value.slice Uk k dk).ownBlock.toList := fun hm => by have := (OWN.out _ hm).1; omega
      exact ⟨FACTS.out ((w.heap.size + 1 + 1 + 1) :: (Value.slice Uk k dk).ownBlock.toList) W' (fun b hb => by
       rcases List.mem_cons.1 hb with e | hb
       ·exact .inl e
       ·exact .inr (OWN.out b hb).1) ((HGRd.out.mono (by simp)).trans (hW.mono (by simp +contextual))), hW.cell (HGd.out.c 1 _ rfl) hn, (World.frozen?_of_block (a := ⟨w.heap.size + 1 + 1 + 1, 1, none⟩) (hW.block _ HGd.out.gl hn)).trans (HGd.out.f 1), hW.size⟩)
     have HWd := Lib.hid hWd
     clear hWd gWd
     refine wp_region_T 18 (S := GrownL (Value.slice Uk k dk).ownBlock.toList (World.drew wr)) (by kernel_rfl) (GrownL.refl _ _) (fun J0 => ?_)
     rw [HWd.out] at J0 ⊢
     refine tt 0 50 J0 ?_ (hy := by intro w' hSw; obtain ⟨⟨q0, q1, q2, q3, q4, q5, q6, q7, q8, q9, q10⟩, qu, -, -⟩ := KEEP.out w' hSw; go_simp; try with_reducible rfl)
     try simp only [aS]
     refine tt 1 51 J0 ?_ (hy := by intro w' hSw; obtain ⟨⟨q0, q1, q2, q3, q4, q5, q6, q7, q8, q9, q10⟩, qu, -, -⟩ := KEEP.out w' hSw; go_simp; try with_reducible rfl)
     try simp only [aS]
     refine tt 2 52 J0 ?_ (hy := by intro w' hSw; obtain ⟨⟨q0, q1, q2, q3, q4, q5, q6, q7, q8, q9, q10⟩, qu, -, -⟩ := KEEP.out w' hSw; go_simp; try with_reducible rfl)
     try simp only [aS]
     refine tt 3 53 J0 ?_ (hy := by intro w' hSw; obtain ⟨⟨q0, q1, q2, q3, q4, q5, q6, q7, q8, q9, q10⟩, qu, -, -⟩ := KEEP.out w' hSw; go_simp; try with_reducible rfl)
     try simp only [aS]
     refine tt 4 54 J0 ?_ (hy := by intro w' hSw; obtain ⟨⟨q0, q1, q2, q3, q4, q5, q6, q7, q8, q9, q10⟩, qu, -, -⟩ := KEEP.out w' hSw; go_simp; try with_reducible rfl)
     try simp only [aS]
     refine tt 5 55 J0 ?_ (hy := by intro w' hSw; obtain ⟨⟨q0, q1, q2, q3, q4, q5, q6, q7, q8, q9, q10⟩, qu, -, -⟩ := KEEP.out w' hSw; go_simp; try with_reducible rfl)
     try simp only [aS]
     refine tt 6 56 J0 ?_ (hy := by intro w' hSw; obtain ⟨⟨q0, q1, q2, q3, q4, q5, q6, q7, q8, q9, q10⟩, qu, -, -⟩ := KEEP.out w' hSw; go_simp; try with_reducible rfl)
     try simp only [aS]
     refine tt 7 57 J0 ?_ (hy := by intro w' hSw; obtain ⟨⟨q0, q1, q2, q3, q4, q5, q6, q7, q8, q9, q10⟩, qu, -, -⟩ := KEEP.out w' hSw; go_simp; try with_reducible rfl)
     try simp only [aS]
     refine tt 8 58 J0 ?_ (hy := by intro w' hSw; obtain ⟨⟨q0, q1, q2, q3, q4, q5, q6, q7, q8, q9, q10⟩, qu, -, -⟩ := KEEP.out w' hSw; go_simp; try with_reducible rfl)
     try simp only [aS]
     refine tt 9 59 J0 ?_ (hy := by intro w' hSw; obtain ⟨⟨q0, q1, q2, q3, q4, q5, q6, q7, q8, q9, q10⟩, qu, -, -⟩ := KEEP.out w' hSw; go_simp; try with_reducible rfl)
     try simp only [aS]
     refine tt 10 60 J0 ?_ (hy := by intro w' hSw; obtain ⟨⟨q0, q1, q2, q3, q4, q5, q6, q7, q8, q9, q10⟩, qu, -, -⟩ := KEEP.out w' hSw; go_simp; try with_reducible rfl)
     try simp only [aS]
     refine tt 11 61 J0 ?_ (hy := by intro w' hSw; obtain ⟨⟨q0, q1, q2, q3, q4, q5, q6, q7, q8, q9, q10⟩, qu, -, -⟩ := KEEP.out w' hSw; go_simp; try with_reducible rfl)
     try simp only [aS]
     refine tt 12 62 J0 ?_ (hy := by intro w' hSw; obtain ⟨⟨q0, q1, q2, q3, q4, q5, q6, q7, q8, q9, q10⟩, qu, -, -⟩ := KEEP.out w' hSw; go_simp; try with_reducible rfl)
     try simp only [aS]
     refine tt 13 63 J0 ?_ (hy := by intro w' hSw; obtain ⟨⟨q0, q1, q2, q3, q4, q5, q6, q7, q8, q9, q10⟩, qu, -, -⟩ := KEEP.out w' hSw; go_simp; try with_reducible rfl)
     try simp only [aS]
     refine oneT (i := 14) (by kernel_rfl) rfl (fun K hK => ?_)
     go_simp
     refine (end_any _ _ _ _).mono ?_
     rintro e wq ⟨rfl, bq⟩
     rw [EV.out]
     have J1 := J0.trans (GrownL.of_below (bs := (Value.slice Uk k dk).ownBlock.toList) bq)
     refine hK.out _ _ J1 ?_
     clear hK K
     try simp only [aS]
     refine oneT (i := 15) (by kernel_rfl) rfl (fun K hK => ?_)
     go_simp
     have J2 : GrownL (Value.slice Uk k dk).ownBlock.toList Wd (wq.alloc (.cells #[.int .i64 (endV ga way lo hi_)] 3)) := J1.trans (GrownL.of_below ((Below.refl _ _).alloc (Nat.le_refl _) _))
     refine hK.out _ _ J2 ?_
     clear hK K
     try simp only [aS]
     refine oneT (i := 16) (by kernel_rfl) rfl (fun K hK => ?_)
     refine step_appA rfl _ _ rfl w3.heap.size (Value.slice Uk k dk) l1 rfl (((HGd.out.o 1 _ _ rfl rfl).below bq).below ((Below.refl _ _).alloc (Nat.le_refl _) _)) (by have := HKK.out; omega) wq.heap.size (endV ga way lo hi_) rfl (by simp [go_sem]) (by have := HGRd.out.size; have := bq.size; simp; omega) (fun v4 w4 ho4 g4 ha4 => ?_)
     have J3 := J2.trans g4
     obtain ⟨y4, z4⟩ : w4.cell? ⟨w.heap.size + 1 + 1 + 1, 1, none⟩ = some (.slice Uk k dk) ∧ w4.frozen? ⟨w.heap.size + 1 + 1 + 1, 1, none⟩ = false := ⟨(KEEP.out _ J3).2.1, (KEEP.out _ J3).2.2.1⟩
     obtain ⟨hG2, hgr2, -, -⟩ := gl_next (k := 1) HGd.out rfl rfl HGRd.out ho4 J3 (ha4.imp (fun h => h) (fun ⟨n, e, hn⟩ => ⟨n, e, by have := J1.size; simp at hn; omega⟩))
     obtain ⟨A4, c4, rfl, -⟩ := ho4.form
     obtain ⟨n4, hn4⟩ : ∃ n4, (l1 ++ [endV ga way lo hi_]).length = n4 := ⟨_, rfl⟩
     rw [hn4] at hG2 hgr2 ⊢
     clear ho4 g4 ha4 hn4
     try go_simp
     refine hK.out _ _ J3 ?_
     clear hK K
     try simp only [aS]
     refine tt 17 67 J3 ?_
     try simp only [aS]
     refine lastT (by kernel_rfl) rfl (fun K hK => ?_)
     go_simp
     refine hK.out _ _ ?_
     clear hK K
     try simp only [aS]
     refine doneT (by kernel_rfl) ?_ _
     obtain ⟨Wa, hWn⟩ : ∃ Wo, w4.setCell ⟨w.heap.size + 1 + 1 + 1, 1, none⟩ (.slice A4 n4 c4) = Wo := ⟨_, rfl⟩
     have HWn_ := Lib.hid hWn
     rw [hWn] at hG2 hgr2 ⊢
     clear hWn J0 J1 J2 J3 bq y4 z4 KEEP OWN HWd HGd HGRd HG HGR
     replace hG2 := Lib.hid hG2
     replace hgr2 := Lib.hid hgr2
     have HG := Lib.hid hG2.out
     have HGR := Lib.hid hgr2.out
     have HNY1 := HNX
     clear HNX HKK hG2 hgr2
     have HKK := HKK2
     have HNX := HNX2
     go_upto_region 12 with fail
     obtain ⟨Uk, dk, hUk, -⟩ := (HG.out.o 2 _ _ rfl rfl).form
     rw [HKK.out] at hUk
     subst hUk
     obtain ⟨l2, hl2⟩ : ∃ l, X.leaks.take k = l := ⟨_, rfl⟩
     rw [hl2] at HG HKK HNX
     clear hl2
     obtain ⟨Wd, hWd⟩ : ∃ Wd, World.drew Wa = Wd := ⟨_, rfl⟩
     have gWd : GrownL [] Wa Wd := by rw [← hWd]; exact (GrownL.refl _ _).drew
     have HGd := Lib.hid (HG.out.grown gWd (by simp) (by simp))
     have HGRd : Hid (GrownL [w.heap.size + 1 + 1 + 1] w3 Wd) := Lib.hid (HGR.out.trans (gWd.mono (by simp)))
     have OWN : Hid (∀ b ∈ (Value.slice Uk k dk).ownBlock.toList, w3.heap.size ≤ b ∧ b < Wd.heap.size) := Lib.hid (fun b hb => HGd.out.own (k := 2) rfl (by simpa using hb))
     have KEEP : Hid (∀ W', GrownL (Value.slice Uk k dk).ownBlock.toList Wd W' → (W'.cell? ⟨w.heap.size + 1, 1, none⟩ = some (.slice (some ⟨br, or_, none⟩) s.boards.length b2) ∧ W'.cell? ⟨br, or_ + k * 2, none⟩ = some (.int .i64 lo) ∧ W'.cell? ⟨br, or_ + k * 2 + 1, none⟩ = some (.int .i64 hi_) ∧ W'.cell? ⟨w1.heap.size, 1, none⟩ = some (.slice (some ⟨bg, og, none⟩) m2 g2) ∧ W'.cell? ⟨bg, og + k, none⟩ = some (.int .i64 ga) ∧ W'.cell? ⟨w1.heap.size, 2, none⟩ = some (.slice (some ⟨bh, oh, none⟩) m3 g3) ∧ W'.cell? ⟨bh, oh + k, none⟩ = some (.int .i64 gb) ∧ W'.cell? ⟨bo, oo + k * 7 + 3, none⟩ = some (.int .i64 k0) ∧ W'.cell? ⟨bo, oo + k * 7 + 4, none⟩ = some (.int .i64 k1) ∧ W'.cell? ⟨bo, oo + k * 7 + 5, none⟩ = some (.int .i64 s0) ∧ W'.cell? ⟨bo, oo + k * 7 + 6, none⟩ = some (.int .i64 s1)) ∧ W'.cell? ⟨w.heap.size + 1 + 1 + 1, 2, none⟩ = some (.slice Uk k dk) ∧ W'.frozen? ⟨w.heap.size + 1 + 1 + 1, 2, none⟩ = false ∧ Wd.heap.size ≤ W'.heap.size) := Lib.hid (fun W' hW => by
      have hz := HSB.out
      have hn : w.heap.size + 1 + 1 + 1 ∉ (Value.slice Uk k dk).ownBlock.toList := fun hm => by have := (OWN.out _ hm).1; omega
      exact ⟨FACTS.out ((w.heap.size + 1 + 1 + 1) :: (Value.slice Uk k dk).ownBlock.toList) W' (fun b hb => by
       rcases List.mem_cons.1 hb with e | hb
       ·exact .inl e
       ·exact .inr (OWN.out b hb).1) ((HGRd.out.mono (by simp)).trans (hW.mono (by simp +contextual))), hW.cell (HGd.out.c 2 _ rfl) hn, (World.frozen?_of_block (a := ⟨w.heap.size + 1 + 1 + 1, 2, none⟩) (hW.block _ HGd.out.gl hn)).trans (HGd.out.f 2), hW.size⟩)
     have HWd := Lib.hid hWd
     clear hWd gWd
     refine wp_region_T 18 (S := GrownL (Value.slice Uk k dk).ownBlock.toList (World.drew Wa)) (by kernel_rfl) (GrownL.refl _ _) (fun J0 => ?_)
     rw [HWd.out] at J0 ⊢
     refine tt 0 68 J0 ?_ (hy := by intro w' hSw; obtain ⟨⟨q0, q1, q2, q3, q4, q5, q6, q7, q8, q9, q10⟩, qu, -, -⟩ := KEEP.out w' hSw; go_simp; try with_reducible rfl)
     try simp only [aS]
     refine tt 1 69 J0 ?_ (hy := by intro w' hSw; obtain ⟨⟨q0, q1, q2, q3, q4, q5, q6, q7, q8, q9, q10⟩, qu, -, -⟩ := KEEP.out w' hSw; go_simp; try with_reducible rfl)
     try simp only [aS]
     refine tt 2 70 J0 ?_ (hy := by intro w' hSw; obtain ⟨⟨q0, q1, q2, q3, q4, q5, q6, q7, q8, q9, q10⟩, qu, -, -⟩ := KEEP.out w' hSw; go_simp; try with_reducible rfl)
     try simp only [aS]
     refine tt 3 71 J0 ?_ (hy := by intro w' hSw; obtain ⟨⟨q0, q1, q2, q3, q4, q5, q6, q7, q8, q9, q10⟩, qu, -, -⟩ := KEEP.out w' hSw; go_simp; try with_reducible rfl)
     try simp only [aS]
     refine tt 4 72 J0 ?_ (hy := by intro w' hSw; obtain ⟨⟨q0, q1, q2, q3, q4, q5, q6, q7, q8, q9, q10⟩, qu, -, -⟩ := KEEP.out w' hSw; go_simp; try with_reducible rfl)
     try simp only [aS]
     refine tt 5 73 J0 ?_ (hy := by intro w' hSw; obtain ⟨⟨q0, q1, q2, q3, q4, q5, q6, q7, q8, q9, q10⟩, qu, -, -⟩ := KEEP.out w' hSw; go_simp; try with_reducible rfl)
     try simp only [aS]
     refine tt 6 74 J0 ?_ (hy := by intro w' hSw; obtain ⟨⟨q0, q1, q2, q3, q4, q5, q6, q7, q8, q9, q10⟩, qu, -, -⟩ := KEEP.out w' hSw; go_simp; try with_reducible rfl)
     try simp only [aS]
     refine tt 7 75 J0 ?_ (hy := by intro w' hSw; obtain ⟨⟨q0, q1, q2, q3, q4, q5, q6, q7, q8, q9, q10⟩, qu, -, -⟩ := KEEP.out w' hSw; go_simp; try with_reducible rfl)
     try simp only [aS]
     refine tt 8 76 J0 ?_ (hy := by intro w' hSw; obtain ⟨⟨q0, q1, q2, q3, q4, q5, q6, q7, q8, q9, q10⟩, qu, -, -⟩ := KEEP.out w' hSw; go_simp; try with_reducible rfl)
     try simp only [aS]
     refine tt 9 77 J0 ?_ (hy := by intro w' hSw; obtain ⟨⟨q0, q1, q2, q3, q4, q5, q6, q7, q8, q9, q10⟩, qu, -, -⟩ := KEEP.out w' hSw; go_simp; try with_reducible rfl)
     try simp only [aS]
     refine tt 10 78 J0 ?_ (hy := by intro w' hSw; obtain ⟨⟨q0, q1, q2, q3, q4, q5, q6, q7, q8, q9, q10⟩, qu, -, -⟩ := KEEP.out w' hSw; go_simp; try with_reducible rfl)
     try simp only [aS]
     refine tt 11 79 J0 ?_ (hy := by intro w' hSw; obtain ⟨⟨q0, q1, q2, q3, q4, q5, q6, q7, q8, q9, q10⟩, qu, -, -⟩ := KEEP.out w' hSw; go_simp; try with_reducible rfl)
     try simp only [aS]
     refine tt 12 80 J0 ?_ (hy := by intro w' hSw; obtain ⟨⟨q0, q1, q2, q3, q4, q5, q6, q7, q8, q9, q10⟩, qu, -, -⟩ := KEEP.out w' hSw; go_simp; try with_reducible rfl)
     try simp only [aS]
     refine tt 13 81 J0 ?_ (hy := by intro w' hSw; obtain ⟨⟨q0, q1, q2, q3, q4, q5, q6, q7, q8, q9, q10⟩, qu, -, -⟩ := KEEP.out w' hSw; go_simp; try with_reducible rfl)
     try simp only [aS]
     refine oneT (i := 14) (by kernel_rfl) rfl (fun K hK => ?_)
     go_simp
     refine (end_any _ _ _ _).mono ?_
     rintro e wq ⟨rfl, bq⟩
     rw [EV.out]
     have J1 := J0.trans (GrownL.of_below (bs := (Value.slice Uk k dk).ownBlock.toList) bq)
     refine hK.out _ _ J1 ?_
     clear hK K
     try simp only [aS]
     refine oneT (i := 15) (by kernel_rfl) rfl (fun K hK => ?_)
     go_simp
     have J2 : GrownL (Value.slice Uk k dk).ownBlock.toList Wd (wq.alloc (.cells #[.int .i64 (endV ga way k0 k1)] 3)) := J1.trans (GrownL.of_below ((Below.refl _ _).alloc (Nat.le_refl _) _))
     refine hK.out _ _ J2 ?_
     clear hK K
     try simp only [aS]
     refine oneT (i := 16) (by kernel_rfl) rfl (fun K hK => ?_)
     refine step_appA rfl _ _ rfl w3.heap.size (Value.slice Uk k dk) l2 rfl (((HGd.out.o 2 _ _ rfl rfl).below bq).below ((Below.refl _ _).alloc (Nat.le_refl _) _)) (by have := HKK.out; omega) wq.heap.size (endV ga way k0 k1) rfl (by simp [go_sem]) (by have := HGRd.out.size; have := bq.size; simp; omega) (fun v4 w4 ho4 g4 ha4 => ?_)
     have J3 := J2.trans g4
     obtain ⟨y4, z4⟩ : w4.cell? ⟨w.heap.size + 1 + 1 + 1, 2, none⟩ = some (.slice Uk k dk) ∧ w4.frozen? ⟨w.heap.size + 1 + 1 + 1, 2, none⟩ = false := ⟨(KEEP.out _ J3).2.1, (KEEP.out _ J3).2.2.1⟩
     obtain ⟨hG2, hgr2, -, -⟩ := gl_next (k := 2) HGd.out rfl rfl HGRd.out ho4 J3 (ha4.imp (fun h => h) (fun ⟨n, e, hn⟩ => ⟨n, e, by have := J1.size; simp at hn; omega⟩))
     obtain ⟨A4, c4, rfl, -⟩ := ho4.form
     obtain ⟨n4, hn4⟩ : ∃ n4, (l2 ++ [endV ga way k0 k1]).length = n4 := ⟨_, rfl⟩
     rw [hn4] at hG2 hgr2 ⊢
     clear ho4 g4 ha4 hn4
     try go_simp
     refine hK.out _ _ J3 ?_
     clear hK K
     try simp only [aS]
     refine tt 17 85 J3 ?_
     try simp only [aS]
     refine lastT (by kernel_rfl) rfl (fun K hK => ?_)
     go_simp
     refine hK.out _ _ ?_
     clear hK K
     try simp only [aS]
     refine doneT (by kernel_rfl) ?_ _
     obtain ⟨Wb, hWn⟩ : ∃ Wo, w4.setCell ⟨w.heap.size + 1 + 1 + 1, 2, none⟩ (.slice A4 n4 c4) = Wo := ⟨_, rfl⟩
     have HWn_ := Lib.hid hWn
     rw [hWn] at hG2 hgr2 ⊢
     clear hWn J0 J1 J2 J3 bq y4 z4 KEEP OWN HWd HGd HGRd HG HGR
     replace hG2 := Lib.hid hG2
     replace hgr2 := Lib.hid hgr2
     have HG := Lib.hid hG2.out
     have HGR := Lib.hid hgr2.out
     have HNY2 := HNX
     clear HNX HKK hG2 hgr2
     have HKK := HKK3
     have HNX := HNX3
     go_upto_region 13 with fail
     obtain ⟨Uk, dk, hUk, -⟩ := (HG.out.o 3 _ _ rfl rfl).form
     rw [HKK.out] at hUk
     subst hUk
     obtain ⟨l3, hl3⟩ : ∃ l, X.losses.take k = l := ⟨_, rfl⟩
     rw [hl3] at HG HKK HNX
     clear hl3
     obtain ⟨Wd, hWd⟩ : ∃ Wd, World.drew Wb = Wd := ⟨_, rfl⟩
     have gWd : GrownL [] Wb Wd := by rw [← hWd]; exact (GrownL.refl _ _).drew
     have HGd := Lib.hid (HG.out.grown gWd (by simp) (by simp))
     have HGRd : Hid (GrownL [w.heap.size + 1 + 1 + 1] w3 Wd) := Lib.hid (HGR.out.trans (gWd.mono (by simp)))
     have OWN : Hid (∀ b ∈ (Value.slice Uk k dk).ownBlock.toList, w3.heap.size ≤ b ∧ b < Wd.heap.size) := Lib.hid (fun b hb => HGd.out.own (k := 3) rfl (by simpa using hb))
     have KEEP : Hid (∀ W', GrownL (Value.slice Uk k dk).ownBlock.toList Wd W' → (W'.cell? ⟨w.heap.size + 1, 1, none⟩ = some (.slice (some ⟨br, or_, none⟩) s.boards.length b2) ∧ W'.cell? ⟨br, or_ + k * 2, none⟩ = some (.int .i64 lo) ∧ W'.cell? ⟨br, or_ + k * 2 + 1, none⟩ = some (.int .i64 hi_) ∧ W'.cell? ⟨w1.heap.size, 1, none⟩ = some (.slice (some ⟨bg, og, none⟩) m2 g2) ∧ W'.cell? ⟨bg, og + k, none⟩ = some (.int .i64 ga) ∧ W'.cell? ⟨w1.heap.size, 2, none⟩ = some (.slice (some ⟨bh, oh, none⟩) m3 g3) ∧ W'.cell? ⟨bh, oh + k, none⟩ = some (.int .i64 gb) ∧ W'.cell? ⟨bo, oo + k * 7 + 3, none⟩ = some (.int .i64 k0) ∧ W'.cell? ⟨bo, oo + k * 7 + 4, none⟩ = some (.int .i64 k1) ∧ W'.cell? ⟨bo, oo + k * 7 + 5, none⟩ = some (.int .i64 s0) ∧ W'.cell? ⟨bo, oo + k * 7 + 6, none⟩ = some (.int .i64 s1)) ∧ W'.cell? ⟨w.heap.size + 1 + 1 + 1, 3, none⟩ = some (.slice Uk k dk) ∧ W'.frozen? ⟨w.heap.size + 1 + 1 + 1, 3, none⟩ = false ∧ Wd.heap.size ≤ W'.heap.size) := Lib.hid (fun W' hW => by
      have hz := HSB.out
      have hn : w.heap.size + 1 + 1 + 1 ∉ (Value.slice Uk k dk).ownBlock.toList := fun hm => by have := (OWN.out _ hm).1; omega
      exact ⟨FACTS.out ((w.heap.size + 1 + 1 + 1) :: (Value.slice Uk k dk).ownBlock.toList) W' (fun b hb => by
       rcases List.mem_cons.1 hb with e | hb
       ·exact .inl e
       ·exact .inr (OWN.out b hb).1) ((HGRd.out.mono (by simp)).trans (hW.mono (by simp +contextual))), hW.cell (HGd.out.c 3 _ rfl) hn, (World.frozen?_of_block (a := ⟨w.heap.size + 1 + 1 + 1, 3, none⟩) (hW.block _ HGd.out.gl hn)).trans (HGd.out.f 3), hW.size⟩)
     have HWd := Lib.hid hWd
     clear hWd gWd
     refine wp_region_T 18 (S := GrownL (Value.slice Uk k dk).ownBlock.toList (World.drew Wb)) (by kernel_rfl) (GrownL.refl _ _) (fun J0 => ?_)
     rw [HWd.out] at J0 ⊢
     refine tt 0 86 J0 ?_ (hy := by intro w' hSw; obtain ⟨⟨q0, q1, q2, q3, q4, q5, q6, q7, q8, q9, q10⟩, qu, -, -⟩ := KEEP.out w' hSw; go_simp; try with_reducible rfl)
     try simp only [aS]
     refine tt 1 87 J0 ?_ (hy := by intro w' hSw; obtain ⟨⟨q0, q1, q2, q3, q4, q5, q6, q7, q8, q9, q10⟩, qu, -, -⟩ := KEEP.out w' hSw; go_simp; try with_reducible rfl)
     try simp only [aS]
     refine tt 2 88 J0 ?_ (hy := by intro w' hSw; obtain ⟨⟨q0, q1, q2, q3, q4, q5, q6, q7, q8, q9, q10⟩, qu, -, -⟩ := KEEP.out w' hSw; go_simp; try with_reducible rfl)
     try simp only [aS]
     refine tt 3 89 J0 ?_ (hy := by intro w' hSw; obtain ⟨⟨q0, q1, q2, q3, q4, q5, q6, q7, q8, q9, q10⟩, qu, -, -⟩ := KEEP.out w' hSw; go_simp; try with_reducible rfl)
     try simp only [aS]
     refine tt 4 90 J0 ?_ (hy := by intro w' hSw; obtain ⟨⟨q0, q1, q2, q3, q4, q5, q6, q7, q8, q9, q10⟩, qu, -, -⟩ := KEEP.out w' hSw; go_simp; try with_reducible rfl)
     try simp only [aS]
     refine tt 5 91 J0 ?_ (hy := by intro w' hSw; obtain ⟨⟨q0, q1, q2, q3, q4, q5, q6, q7, q8, q9, q10⟩, qu, -, -⟩ := KEEP.out w' hSw; go_simp; try with_reducible rfl)
     try simp only [aS]
     refine tt 6 92 J0 ?_ (hy := by intro w' hSw; obtain ⟨⟨q0, q1, q2, q3, q4, q5, q6, q7, q8, q9, q10⟩, qu, -, -⟩ := KEEP.out w' hSw; go_simp; try with_reducible rfl)
     try simp only [aS]
     refine tt 7 93 J0 ?_ (hy := by intro w' hSw; obtain ⟨⟨q0, q1, q2, q3, q4, q5, q6, q7, q8, q9, q10⟩, qu, -, -⟩ := KEEP.out w' hSw; go_simp; try with_reducible rfl)
     try simp only [aS]
     refine tt 8 94 J0 ?_ (hy := by intro w' hSw; obtain ⟨⟨q0, q1, q2, q3, q4, q5, q6, q7, q8, q9, q10⟩, qu, -, -⟩ := KEEP.out w' hSw; go_simp; try with_reducible rfl)
     try simp only [aS]
     refine tt 9 95 J0 ?_ (hy := by intro w' hSw; obtain ⟨⟨q0, q1, q2, q3, q4, q5, q6, q7, q8, q9, q10⟩, qu, -, -⟩ := KEEP.out w' hSw; go_simp; try with_reducible rfl)
     try simp only [aS]
     refine tt 10 96 J0 ?_ (hy := by intro w' hSw; obtain ⟨⟨q0, q1, q2, q3, q4, q5, q6, q7, q8, q9, q10⟩, qu, -, -⟩ := KEEP.out w' hSw; go_simp; try with_reducible rfl)
     try simp only [aS]
     refine tt 11 97 J0 ?_ (hy := by intro w' hSw; obtain ⟨⟨q0, q1, q2, q3, q4, q5, q6, q7, q8, q9, q10⟩, qu, -, -⟩ := KEEP.out w' hSw; go_simp; try with_reducible rfl)
     try simp only [aS]
     refine tt 12 98 J0 ?_ (hy := by intro w' hSw; obtain ⟨⟨q0, q1, q2, q3, q4, q5, q6, q7, q8, q9, q10⟩, qu, -, -⟩ := KEEP.out w' hSw; go_simp; try with_reducible rfl)
     try simp only [aS]
     refine tt 13 99 J0 ?_ (hy := by intro w' hSw; obtain ⟨⟨q0, q1, q2, q3, q4, q5, q6, q7, q8, q9, q10⟩, qu, -, -⟩ := KEEP.out w' hSw; go_simp; try with_reducible rfl)
     try simp only [aS]
     refine oneT (i := 14) (by kernel_rfl) rfl (fun K hK => ?_)
     go_simp
     refine (end_any _ _ _ _).mono ?_
     rintro e wq ⟨rfl, bq⟩
     rw [EV.out]
     have J1 := J0.trans (GrownL.of_below (bs := (Value.slice Uk k dk).ownBlock.toList) bq)
     refine hK.out _ _ J1 ?_
     clear hK K
     try simp only [aS]
     refine oneT (i := 15) (by kernel_rfl) rfl (fun K hK => ?_)
     go_simp
     have J2 : GrownL (Value.slice Uk k dk).ownBlock.toList Wd (wq.alloc (.cells #[.int .i64 (endV gb way s0 s1)] 3)) := J1.trans (GrownL.of_below ((Below.refl _ _).alloc (Nat.le_refl _) _))
     refine hK.out _ _ J2 ?_
     clear hK K
     try simp only [aS]
     refine oneT (i := 16) (by kernel_rfl) rfl (fun K hK => ?_)
     refine step_appA rfl _ _ rfl w3.heap.size (Value.slice Uk k dk) l3 rfl (((HGd.out.o 3 _ _ rfl rfl).below bq).below ((Below.refl _ _).alloc (Nat.le_refl _) _)) (by have := HKK.out; omega) wq.heap.size (endV gb way s0 s1) rfl (by simp [go_sem]) (by have := HGRd.out.size; have := bq.size; simp; omega) (fun v4 w4 ho4 g4 ha4 => ?_)
     have J3 := J2.trans g4
     obtain ⟨y4, z4⟩ : w4.cell? ⟨w.heap.size + 1 + 1 + 1, 3, none⟩ = some (.slice Uk k dk) ∧ w4.frozen? ⟨w.heap.size + 1 + 1 + 1, 3, none⟩ = false := ⟨(KEEP.out _ J3).2.1, (KEEP.out _ J3).2.2.1⟩
     obtain ⟨hG2, hgr2, -, -⟩ := gl_next (k := 3) HGd.out rfl rfl HGRd.out ho4 J3 (ha4.imp (fun h => h) (fun ⟨n, e, hn⟩ => ⟨n, e, by have := J1.size; simp at hn; omega⟩))
     obtain ⟨A4, c4, rfl, -⟩ := ho4.form
     obtain ⟨n4, hn4⟩ : ∃ n4, (l3 ++ [endV gb way s0 s1]).length = n4 := ⟨_, rfl⟩
     rw [hn4] at hG2 hgr2 ⊢
     clear ho4 g4 ha4 hn4
     try go_simp
     refine hK.out _ _ J3 ?_
     clear hK K
     try simp only [aS]
     refine tt 17 103 J3 ?_
     try simp only [aS]
     refine lastT (by kernel_rfl) rfl (fun K hK => ?_)
     go_simp
     refine hK.out _ _ ?_
     clear hK K
     try simp only [aS]
     refine doneT (by kernel_rfl) ?_ _
     obtain ⟨Wc, hWn⟩ : ∃ Wo, w4.setCell ⟨w.heap.size + 1 + 1 + 1, 3, none⟩ (.slice A4 n4 c4) = Wo := ⟨_, rfl⟩
     have HWn_ := Lib.hid hWn
     rw [hWn] at hG2 hgr2 ⊢
     clear hWn J0 J1 J2 J3 bq y4 z4 KEEP OWN HWd HGd HGRd HG HGR
     replace hG2 := Lib.hid hG2
     replace hgr2 := Lib.hid hgr2
     have HG := Lib.hid hG2.out
     have HGR := Lib.hid hgr2.out
     have HNY3 := HNX
     clear HNX HKK hG2 hgr2
     go_wp2_with fail
     go_roundw
     case rel => exact ⟨k + 1, _, _, _, by go_num, by omega, by rw [HNY1.out, HNY2.out, HNY3.out]; exact HG.out, HGR.out⟩
     case measure => show nt - ((k : Int) + 1).toNat < nt - (k : Int).toNat; omega
    ·have hk0 : (nt : Int) ≤ (k : Int) := by omega
     obtain rfl : k = nt := by omega
     rw [List.take_of_length_le (by rw [LV.out.2.1]; exact Nat.le_refl _), List.take_of_length_le (by rw [LV.out.2.2.1]; exact Nat.le_refl _), List.take_of_length_le (by rw [LV.out.2.2.2]; exact Nat.le_refl _)] at HG
     have y0 := HG.out.c 0 _ rfl
     have y1 := HG.out.c 1 _ rfl
     have y2 := HG.out.c 2 _ rfl
     have y3 := HG.out.c 3 _ rfl
     obtain ⟨L0, d0, e0, -⟩ := (HG.out.o 0 _ _ rfl rfl).form
     obtain ⟨L1, d1, e1, -⟩ := (HG.out.o 1 _ _ rfl rfl).form
     obtain ⟨L2, d2, e2, -⟩ := (HG.out.o 2 _ _ rfl rfl).form
     obtain ⟨L3, d3, e3, -⟩ := (HG.out.o 3 _ _ rfl rfl).form
     rw [LV.out.1] at e0
     rw [LV.out.2.1] at e1
     rw [LV.out.2.2.1] at e2
     rw [LV.out.2.2.2] at e3
     subst e0 e1 e2 e3
     have z0 := KK.out.z0
     have z1 := KK.out.z1
     have z2 := KK.out.z2
     have z3 := KK.out.z3
     have zf := KK.out.fz
     have HKU : Hid (k ≤ 60) := Lib.hid (by omega)
     go_wp2_with fail
     clear y0 y1 y2 y3 zf
     obtain ⟨W5, hW5⟩ : ∃ W5, (((wr.setCell ⟨w.heap.size + 1 + 1, 0, none⟩ (.slice L0 s.river.length d0)).setCell ⟨w.heap.size + 1 + 1, 1, none⟩ (.slice L1 k d1)).setCell ⟨w.heap.size + 1 + 1, 2, none⟩ (.slice L2 k d2)).setCell ⟨w.heap.size + 1 + 1, 3, none⟩ (.slice L3 k d3) = W5 := ⟨_, rfl⟩
     obtain ⟨p0, p1, p2, p3, gs⟩ := set4 z0 z1 z2 z3 _ _ _ _ hW5
     rw [hW5]
     clear hW5 z0 z1 z2 z3
     have GB := KK.out.bel.trans (gs.below (B := w.heap.size) (by simp; omega) KK.out.bel.size)
     have nb : ∀ b, w3.heap.size ≤ b → b ∉ [w.heap.size + 1 + 1] := fun b hb hm => by have := HSB.out; simp at hm; omega
     refine bodyPost_ret (v := .agg #[.slice L0 s.river.length d0, .slice L1 k d1, .slice L2 k d2, .slice L3 k d3]) (by simp [results, Try.results140, go_sem, p0, p1, p2, p3]) rfl ⟨_, rfl, ?_, GB⟩
     rw [HX.out]
     have hlo : w.heap.size ≤ w3.heap.size := by have := HSB.out; omega
     refine ⟨_, _, _, _, rfl, ((HG.out.o 0 _ _ rfl rfl).grown gs (fun b hb => nb b (HG.out.own (k := 0) rfl hb).1)).low hlo, ((HG.out.o 1 _ _ rfl rfl).grown gs (fun b hb => nb b (HG.out.own (k := 1) rfl hb).1)).low hlo, ((HG.out.o 2 _ _ rfl rfl).grown gs (fun b hb => nb b (HG.out.own (k := 2) rfl hb).1)).low hlo, ((HG.out.o 3 _ _ rfl rfl).grown gs (fun b hb => nb b (HG.out.own (k := 3) rfl hb).1)).low hlo, ?_, ?_, ?_, ?_⟩
     ·rw [LV.out.1]; omega
     ·rw [LV.out.2.1]; have := HKU.out; omega
     ·rw [LV.out.2.2.1]; have := HKU.out; omega
     ·rw [LV.out.2.2.2]; have := HKU.out; omega
end Go.Proofs.Ytkoacclbempmdaa

/- Contracts of the specification's CheckWater, Flow, Tails, Lost. -/
namespace Go.Proofs.Ytkoacclbempmdaa
open Go.RowKit

theorem fl_field0 (A1 A2 : Option Addr) (n1 c1 n2 c2 : Nat) (x : Int) (w : World) : (Instr.field 171 (.agg #[.slice A1 n1 c1, .slice A2 n2 c2, .int .i64 x]) 0).run Try.prog w = .ok (.slice A1 n1 c1) w := by
 have hs : (sizeOf 25).run Try.prog w = .ok 1 w := by kernel_rfl
 unfold Instr.field
 simp [run_underlying Try.underlying171, asAgg, part, isAgg, hs]
theorem fl_field1 (A1 A2 : Option Addr) (n1 c1 n2 c2 : Nat) (x : Int) (w : World) : (Instr.field 171 (.agg #[.slice A1 n1 c1, .slice A2 n2 c2, .int .i64 x]) 1).run Try.prog w = .ok (.slice A2 n2 c2) w := by
 have hs : (sizeOf 25).run Try.prog w = .ok 1 w := by kernel_rfl
 unfold Instr.field
 simp [run_underlying Try.underlying171, asAgg, part, isAgg, hs]
theorem fl_field2 (A1 A2 : Option Addr) (n1 c1 n2 c2 : Nat) (x : Int) (w : World) : (Instr.field 171 (.agg #[.slice A1 n1 c1, .slice A2 n2 c2, .int .i64 x]) 2).run Try.prog w = .ok (.int .i64 x) w := by
 have hs : (sizeOf 3).run Try.prog w = .ok 1 w := by kernel_rfl
 unfold Instr.field
 simp [run_underlying Try.underlying171, asAgg, part, isAgg, hs]

/-- A result's block of a list and an error, wherever it lies. -/
structure R2B (g : Nat) (W : World) : Prop where
 c0 : W.cell? ⟨g, 0, none⟩ = some (.slice none 0 0)
 c1 : W.cell? ⟨g, 1, none⟩ = some (.int .i64 0)
 f0 : W.frozen? ⟨g, 0, none⟩ = false
 f1 : W.frozen? ⟨g, 1, none⟩ = false
theorem R2B.lt {g : Nat} {W : World} (h : R2B g W) : g < W.heap.size := World.block_lt_of_cell? _ _ h.c0
theorem R2B.below {g : Nat} {W W' : World} (h : R2B g W) (hb : Below W.heap.size W W') : R2B g W' :=
 ⟨(hb.cell (p := ⟨g, 0, none⟩) h.lt).trans h.c0, (hb.cell (p := ⟨g, 1, none⟩) h.lt).trans h.c1, (hb.frozen (p := ⟨g, 0, none⟩) h.lt).trans h.f0, (hb.frozen (p := ⟨g, 1, none⟩) h.lt).trans h.f1⟩
theorem R2B.ret {g : Nat} {w W : World} (h : R2B g W) (hb : Below w.heap.size w W) (hg : w.heap.size ≤ g) (v : Value) (d : Int) :
  ∃ X, (W.setCell ⟨g, 0, none⟩ v).setCell ⟨g, 1, none⟩ (.int .i64 d) = X ∧ X.cell? ⟨g, 0, none⟩ = some v ∧ X.cell? ⟨g, 1, none⟩ = some (.int .i64 d) ∧ Below w.heap.size w X ∧ GrownL [g] W X := by
 have gr : GrownL [g] W ((W.setCell ⟨g, 0, none⟩ v).setCell ⟨g, 1, none⟩ (.int .i64 d)) := (GrownL.set _ _ _ (by simp)).trans (GrownL.set _ _ _ (by simp))
 have e1 : (W.setCell ⟨g, 0, none⟩ v).cell? ⟨g, 0, none⟩ = some v := World.cell?_setCell_same' _ _ _ (by rw [h.c0]; rfl)
 have e2 : (W.setCell ⟨g, 0, none⟩ v).cell? ⟨g, 1, none⟩ = some (.int .i64 0) := (World.cell?_setCell_other _ ⟨g, 0, none⟩ ⟨g, 1, none⟩ _ (by simp)).trans h.c1
 exact ⟨_, rfl, (World.cell?_setCell_other _ ⟨g, 1, none⟩ ⟨g, 0, none⟩ _ (by simp)).trans e1, World.cell?_setCell_same' _ _ _ (by rw [e2]; rfl), hb.trans (gr.below (by simpa using hg) hb.size), gr⟩

set_option maxHeartbeats 8000000 in
set_option maxRecDepth 1000000 in
theorem rCheckWater_any (v wv : Value) (ws : Wk) (s : Wa) (d : Int) (w : World) (h : RK w.heap.size v ws w) (ht : total ws ≤ 100000) (hs : RWa w.heap.size wv s w) (hd : WatIs ws s d) :
  Calls Try.prog 59 #[.agg #[v], wv] w fun e w' => e = .returned (.int .i64 d) ∧ Below w.heap.size w w' := by
 obtain ⟨A, c, rfl, -⟩ := (show ∃ A c, v = .slice A ws.length c ∧ True by obtain ⟨A, c, e, _⟩ := h; exact ⟨A, c, e, trivial⟩)
 obtain ⟨A1, c1, A2, c2, A3, c3, A4, c4, rfl⟩ := hs.form
 have C1 := Lib.hid fun (d : Int) (hc : CheckIs ws d) W (hb : Below w.heap.size w W) => rcheck_any A ws.length c ws d W (h.up hb.size hb) ht hc
 have C2 := Lib.hid fun (hw : WOk ws) (hd : (WaOk ws s ∧ d = 0) ∨ (¬ WaOk ws s ∧ d = 1)) W (hb : Below w.heap.size w W) => rwater_any A c _ ws s d W (h.up hb.size hb) (hs.up hb.size hb) hw hd
 have S0 := Lib.hid (WW.new w (.slice A ws.length c) (.slice A1 s.river.length c1) (.slice A2 s.boards.length c2) (.slice A3 s.leaks.length c3) (.slice A4 s.losses.length c4))
 clear h hs
 have hx : (CheckIs ws d ∧ d ≠ 0) ∨ (CheckIs ws 0 ∧ ((WaOk ws s ∧ d = 0) ∨ (¬ WaOk ws s ∧ d = 1))) := by
  rcases hd with h | ⟨a, b, e⟩ | ⟨a, b, e⟩
  ·exact .inl h
  ·exact .inr ⟨a, .inr ⟨b, e⟩⟩
  ·exact .inr ⟨a, .inl ⟨b, e⟩⟩
 rcases hx with ⟨hc, hd⟩ | ⟨hc, hd⟩
 ·have HC := Lib.hid hc
  have hdb : (d != 0) = true := by rw [bne_iff_ne]; exact hd
  clear hc
  go_enter Try.func59, Try.ntmps59
  go_wp2_with fail
  refine (C1.out d HC.out _ S0.out.bel).mono ?_
  rintro e w1 ⟨rfl, b1⟩
  have S1 := Lib.hid (S0.out.below b1)
  clear b1
  go_wp2_with fail
  go_ret
  exact ⟨rfl, S1.out.bel⟩
 ·have HC := Lib.hid hc
  have HD := Lib.hid hd
  clear hc hd
  go_enter Try.func59, Try.ntmps59
  go_wp2_with fail
  refine (C1.out 0 HC.out _ S0.out.bel).mono ?_
  rintro e w1 ⟨rfl, b1⟩
  have S1 := Lib.hid (S0.out.below b1)
  clear b1
  have x0 := S1.out.wk
  have x1 := S1.out.r
  have x2 := S1.out.b
  have x3 := S1.out.k
  have x4 := S1.out.l
  go_wp2_with fail
  refine (C2.out HC.out.ok HD.out _ S1.out.bel).mono ?_
  rintro e w2 ⟨rfl, b1⟩
  have S2 := Lib.hid (S1.out.below b1)
  clear b1
  go_wp2_with fail
  go_ret
  exact ⟨rfl, S2.out.bel⟩

set_option maxHeartbeats 8000000 in
set_option maxRecDepth 1000000 in
theorem rFlow_any (v wv : Value) (ws : Wk) (s : Wa) (d : Int) (w : World) (h : RK w.heap.size v ws w) (ht : total ws ≤ 100000) (hs : RWa w.heap.size wv s w) (hd : WatIs ws s d) :
  Calls Try.prog 56 #[.agg #[v], wv] w fun e w' => ∃ u, e = .returned (.agg #[u, .int .i64 d]) ∧ OwnG encI 1 3 w.heap.size u (okL d (flowF ws s).thr) w' ∧ Below w.heap.size w w' := by
 obtain ⟨A, c, rfl, -⟩ := (show ∃ A c, v = .slice A ws.length c ∧ True by obtain ⟨A, c, e, _⟩ := h; exact ⟨A, c, e, trivial⟩)
 obtain ⟨A1, c1, A2, c2, A3, c3, A4, c4, rfl⟩ := hs.form
 have C1 := Lib.hid fun W (hb : Below w.heap.size w W) => rCheckWater_any (.slice A ws.length c) _ ws s d W (h.up hb.size hb) ht (hs.up hb.size hb) hd
 have C2 := Lib.hid fun (hw : WOk ws) (ho : WaOk ws s) W (hb : Below w.heap.size w W) => rflow_any A c _ ws s W (h.up hb.size hb) (hs.up hb.size hb) hw ho
 have S0 := Lib.hid ((WW.new w (.slice A ws.length c) (.slice A1 s.river.length c1) (.slice A2 s.boards.length c2) (.slice A3 s.leaks.length c3) (.slice A4 s.losses.length c4)).below ((Below.refl _ _).alloc (Nat.le_refl _) (.cells #[.slice none 0 0, .int .i64 0] 86)))
 have R0 : Hid (R2B (w.heap.size + 1 + 1) (((w.alloc (.cells #[.slice A ws.length c] 24)).alloc (.cells #[.slice A1 s.river.length c1, .slice A2 s.boards.length c2, .slice A3 s.leaks.length c3, .slice A4 s.losses.length c4] 27)).alloc (.cells #[.slice none 0 0, .int .i64 0] 86))) := Lib.hid ⟨by simp [go_sem], by simp [go_sem], by simp [go_sem], by simp [go_sem]⟩
 have HD := Lib.hid hd
 clear h hs hd
 go_enter Try.func56, Try.ntmps56
 go_wp2_with fail
 refine (C1.out _ S0.out.bel).mono ?_
 rintro e w1 ⟨rfl, b1⟩
 have S := Lib.hid (S0.out.below b1)
 have R := Lib.hid (R0.out.below b1)
 clear b1 S0 C1 R0
 by_cases hd0 : d = 0
 ·subst hd0
  have HOK := Lib.hid HD.out.ok
  have x0 := S.out.wk
  have x1 := S.out.r
  have x2 := S.out.b
  have x3 := S.out.k
  have x4 := S.out.l
  go_wp2_with fail
  refine (C2.out HOK.out.1 HOK.out.2 _ S.out.bel).mono ?_
  rintro e w2 ⟨v1, v2, rfl, o1, o2, b2⟩
  have S2 := Lib.hid (S.out.below b2)
  have R2 := Lib.hid (R.out.below b2)
  obtain ⟨U1, d1, rfl, -⟩ := o1.form
  obtain ⟨U2, d2, rfl, -⟩ := o2.form
  have HO := Lib.hid o1
  obtain ⟨m1, hm1⟩ : ∃ n, (flowF ws s).thr.length = n := ⟨_, rfl⟩
  obtain ⟨m2, hm2⟩ : ∃ n, (tailsL ws s).length = n := ⟨_, rfl⟩
  obtain ⟨L, hL⟩ : ∃ n, (flowF ws s).lost = n := ⟨_, rfl⟩
  rw [hm1] at HO
  rw [hm1, hm2, hL]
  have fl := fl_field0 U1 U2 m1 d1 m2 d2 L w2
  have r0 := R2.out.c0
  have r1 := R2.out.c1
  have r2 := R2.out.f0
  have r3 := R2.out.f1
  clear o1 o2 b2 x0 x1 x2 x3 x4 hm1 hm2 hL
  go_wp2_with fail
  obtain ⟨X, hX, p0, p1, bb, gg⟩ := R2.out.ret S2.out.bel (by omega) (.slice U1 m1 d1) 0
  rw [hX]
  clear hX
  refine bodyPost_ret (v := .agg #[.slice U1 m1 d1, .int .i64 0]) (by simp [results, Try.results56, go_sem, p0, p1]) rfl ?_
  have hs1 := S.out.siz
  have hs2 := R.out.lt
  exact ⟨_, rfl, by rw [okL_zero]; exact (HO.out.grown gg (fun q hq hm => by have := (HO.out.lt q hq).1; simp at hm; omega)).low (by omega), bb⟩
 ·have HD0 := Lib.hid hd0
  have hdb : (d != 0) = true := by rw [bne_iff_ne]; exact hd0
  have r0 := R.out.c0
  have r1 := R.out.c1
  have r2 := R.out.f0
  have r3 := R.out.f1
  go_wp2_with fail
  obtain ⟨X, hX, p0, p1, bb, gg⟩ := R.out.ret S.out.bel (by omega) (.slice none 0 0) d
  rw [hX]
  clear hX
  refine bodyPost_ret (v := .agg #[.slice none 0 0, .int .i64 d]) (by simp [results, Try.results56, go_sem, p0, p1]) rfl ?_
  exact ⟨_, rfl, by rw [okL_ne HD0.out]; exact OwnG.nil _ _ _ _ _, bb⟩

set_option maxHeartbeats 8000000 in
set_option maxRecDepth 1000000 in
theorem rTails_any (v wv : Value) (ws : Wk) (s : Wa) (d : Int) (w : World) (h : RK w.heap.size v ws w) (ht : total ws ≤ 100000) (hs : RWa w.heap.size wv s w) (hd : WatIs ws s d) :
  Calls Try.prog 57 #[.agg #[v], wv] w fun e w' => ∃ u, e = .returned (.agg #[u, .int .i64 d]) ∧ OwnG encI 1 3 w.heap.size u (okL d (tailsL ws s)) w' ∧ Below w.heap.size w w' := by
 obtain ⟨A, c, rfl, -⟩ := (show ∃ A c, v = .slice A ws.length c ∧ True by obtain ⟨A, c, e, _⟩ := h; exact ⟨A, c, e, trivial⟩)
 obtain ⟨A1, c1, A2, c2, A3, c3, A4, c4, rfl⟩ := hs.form
 have C1 := Lib.hid fun W (hb : Below w.heap.size w W) => rCheckWater_any (.slice A ws.length c) _ ws s d W (h.up hb.size hb) ht (hs.up hb.size hb) hd
 have C2 := Lib.hid fun (hw : WOk ws) (ho : WaOk ws s) W (hb : Below w.heap.size w W) => rflow_any A c _ ws s W (h.up hb.size hb) (hs.up hb.size hb) hw ho
 have S0 := Lib.hid ((WW.new w (.slice A ws.length c) (.slice A1 s.river.length c1) (.slice A2 s.boards.length c2) (.slice A3 s.leaks.length c3) (.slice A4 s.losses.length c4)).below ((Below.refl _ _).alloc (Nat.le_refl _) (.cells #[.slice none 0 0, .int .i64 0] 86)))
 have R0 : Hid (R2B (w.heap.size + 1 + 1) (((w.alloc (.cells #[.slice A ws.length c] 24)).alloc (.cells #[.slice A1 s.river.length c1, .slice A2 s.boards.length c2, .slice A3 s.leaks.length c3, .slice A4 s.losses.length c4] 27)).alloc (.cells #[.slice none 0 0, .int .i64 0] 86))) := Lib.hid ⟨by simp [go_sem], by simp [go_sem], by simp [go_sem], by simp [go_sem]⟩
 have HD := Lib.hid hd
 clear h hs hd
 go_enter Try.func57, Try.ntmps57
 go_wp2_with fail
 refine (C1.out _ S0.out.bel).mono ?_
 rintro e w1 ⟨rfl, b1⟩
 have S := Lib.hid (S0.out.below b1)
 have R := Lib.hid (R0.out.below b1)
 clear b1 S0 C1 R0
 by_cases hd0 : d = 0
 ·subst hd0
  have HOK := Lib.hid HD.out.ok
  have x0 := S.out.wk
  have x1 := S.out.r
  have x2 := S.out.b
  have x3 := S.out.k
  have x4 := S.out.l
  go_wp2_with fail
  refine (C2.out HOK.out.1 HOK.out.2 _ S.out.bel).mono ?_
  rintro e w2 ⟨v1, v2, rfl, o1, o2, b2⟩
  have S2 := Lib.hid (S.out.below b2)
  have R2 := Lib.hid (R.out.below b2)
  obtain ⟨U1, d1, rfl, -⟩ := o1.form
  obtain ⟨U2, d2, rfl, -⟩ := o2.form
  have HO := Lib.hid o2
  obtain ⟨m1, hm1⟩ : ∃ n, (flowF ws s).thr.length = n := ⟨_, rfl⟩
  obtain ⟨m2, hm2⟩ : ∃ n, (tailsL ws s).length = n := ⟨_, rfl⟩
  obtain ⟨L, hL⟩ : ∃ n, (flowF ws s).lost = n := ⟨_, rfl⟩
  rw [hm2] at HO
  rw [hm1, hm2, hL]
  have fl := fl_field1 U1 U2 m1 d1 m2 d2 L w2
  have r0 := R2.out.c0
  have r1 := R2.out.c1
  have r2 := R2.out.f0
  have r3 := R2.out.f1
  clear o1 o2 b2 x0 x1 x2 x3 x4 hm1 hm2 hL
  go_wp2_with fail
  obtain ⟨X, hX, p0, p1, bb, gg⟩ := R2.out.ret S2.out.bel (by omega) (.slice U2 m2 d2) 0
  rw [hX]
  clear hX
  refine bodyPost_ret (v := .agg #[.slice U2 m2 d2, .int .i64 0]) (by simp [results, Try.results57, go_sem, p0, p1]) rfl ?_
  have hs1 := S.out.siz
  have hs2 := R.out.lt
  exact ⟨_, rfl, by rw [okL_zero]; exact (HO.out.grown gg (fun q hq hm => by have := (HO.out.lt q hq).1; simp at hm; omega)).low (by omega), bb⟩
 ·have HD0 := Lib.hid hd0
  have hdb : (d != 0) = true := by rw [bne_iff_ne]; exact hd0
  have r0 := R.out.c0
  have r1 := R.out.c1
  have r2 := R.out.f0
  have r3 := R.out.f1
  go_wp2_with fail
  obtain ⟨X, hX, p0, p1, bb, gg⟩ := R.out.ret S.out.bel (by omega) (.slice none 0 0) d
  rw [hX]
  clear hX
  refine bodyPost_ret (v := .agg #[.slice none 0 0, .int .i64 d]) (by simp [results, Try.results57, go_sem, p0, p1]) rfl ?_
  exact ⟨_, rfl, by rw [okL_ne HD0.out]; exact OwnG.nil _ _ _ _ _, bb⟩

set_option maxHeartbeats 8000000 in
set_option maxRecDepth 1000000 in
theorem rLost_any (v wv : Value) (ws : Wk) (s : Wa) (d : Int) (w : World) (h : RK w.heap.size v ws w) (ht : total ws ≤ 100000) (hs : RWa w.heap.size wv s w) (hd : WatIs ws s d) :
  Calls Try.prog 58 #[.agg #[v], wv] w fun e w' => e = .returned (.tuple #[.int .i64 (okN d (flowF ws s).lost), .int .i64 d]) ∧ Below w.heap.size w w' := by
 obtain ⟨A, c, rfl, -⟩ := (show ∃ A c, v = .slice A ws.length c ∧ True by obtain ⟨A, c, e, _⟩ := h; exact ⟨A, c, e, trivial⟩)
 obtain ⟨A1, c1, A2, c2, A3, c3, A4, c4, rfl⟩ := hs.form
 have C1 := Lib.hid fun W (hb : Below w.heap.size w W) => rCheckWater_any (.slice A ws.length c) _ ws s d W (h.up hb.size hb) ht (hs.up hb.size hb) hd
 have C2 := Lib.hid fun (hw : WOk ws) (ho : WaOk ws s) W (hb : Below w.heap.size w W) => rflow_any A c _ ws s W (h.up hb.size hb) (hs.up hb.size hb) hw ho
 have S0 := Lib.hid (WW.new w (.slice A ws.length c) (.slice A1 s.river.length c1) (.slice A2 s.boards.length c2) (.slice A3 s.leaks.length c3) (.slice A4 s.losses.length c4))
 have HD := Lib.hid hd
 obtain ⟨L, hL⟩ : ∃ n, okN d (flowF ws s).lost = n := ⟨_, rfl⟩
 have HL := Lib.hid hL
 rw [hL]
 clear h hs hd hL
 go_enter Try.func58, Try.ntmps58
 go_wp2_with fail
 refine (C1.out _ S0.out.bel).mono ?_
 rintro e w1 ⟨rfl, b1⟩
 have S := Lib.hid (S0.out.below b1)
 clear b1 S0 C1
 by_cases hd0 : d = 0
 ·subst hd0
  have HOK := Lib.hid HD.out.ok
  have x0 := S.out.wk
  have x1 := S.out.r
  have x2 := S.out.b
  have x3 := S.out.k
  have x4 := S.out.l
  go_wp2_with fail
  refine (C2.out HOK.out.1 HOK.out.2 _ S.out.bel).mono ?_
  rintro e w2 ⟨v1, v2, rfl, o1, o2, b2⟩
  have S2 := Lib.hid (S.out.below b2)
  obtain ⟨U1, d1, rfl, -⟩ := o1.form
  obtain ⟨U2, d2, rfl, -⟩ := o2.form
  have hL : (flowF ws s).lost = L := by have := HL.out; rwa [okN_zero] at this
  obtain ⟨m1, hm1⟩ : ∃ n, (flowF ws s).thr.length = n := ⟨_, rfl⟩
  obtain ⟨m2, hm2⟩ : ∃ n, (tailsL ws s).length = n := ⟨_, rfl⟩
  rw [hL, hm1, hm2]
  have fl := fl_field2 U1 U2 m1 d1 m2 d2 L w2
  clear o1 o2 b2 x0 x1 x2 x3 x4 hL hm1 hm2
  go_wp2_with fail
  refine bodyPost_ret (results_tmp2 rfl _ _ _) rfl ?_
  exact ⟨rfl, S2.out.bel⟩
 ·have HD0 := Lib.hid hd0
  have hdb : (d != 0) = true := by rw [bne_iff_ne]; exact hd0
  obtain rfl : L = 0 := by have := HL.out; unfold okN at this; rw [if_neg hd0] at this; exact this.symm
  go_wp2_with fail
  refine bodyPost_ret (results_tmp2 rfl _ _ _) rfl ?_
  exact ⟨rfl, S.out.bel⟩
end Go.Proofs.Ytkoacclbempmdaa

/- Contract of the specification's ends. -/
namespace Go.Proofs.Ytkoacclbempmdaa
open Go.RowKit
attribute [local go_sem] Oper.semAt_some

section
variable {P : Program} {ops : Array Oper} {Q : Exit → Act → World → Prop} {md : Region.Mode} {S S' : World → Prop} {z : Nat}
/-- What holds behind each operation may say more. -/
theorem wpAnyT_mono (h : ∀ w, S' w → S w) : ∀ (fuel : Nat) (listed : Array Bool) (a : Act) (w : World), wpAnyT P md ops Q S' z fuel listed a w → wpAnyT P md ops Q S z fuel listed a w
 | 0, _, _, _, H => H
 | fuel + 1, _, _, _, H => ⟨H.1, fun i hi => wpOp_mono (fun a' w' h' => ⟨h'.1.imp id (h w'), wpAnyT_mono h fuel _ a' w' h'.2⟩) (H.2 i hi)⟩
end
set_option maxHeartbeats 16000000 in
set_option maxRecDepth 1000000 in
theorem rends_any (A : Option Addr) (c : Nat) (cv : Value) (ws : Wk) (s : Ca) (i : Nat) (p : Pl) (w : World) (h : RK w.heap.size (.slice A ws.length c) ws w) (hs : RCa w.heap.size cv s w)
  (hw : WOk ws) (hc : CaOk ws s) (hp : (allP ws)[i]? = some p) :
  Calls Try.prog 125 #[.agg #[.slice A ws.length c], cv, .int .i64 i] w fun ed w' => ∃ a1 a2 a3 a4 b1 b2 b3 b4, ed = .returned (.agg #[.int .i64 (flE ws s p.o.id i 1), .int .i64 (flE ws s p.o.id i (-1)), a1, a2, a3, a4, b1, b2, b3, b4]) ∧ OW w.heap.size (.agg #[a1, a2, a3, a4]) (exW ws s (endE ws p.o.id) 1) w' ∧ OW w.heap.size (.agg #[b1, b2, b3, b4]) (exW ws s (endE ws p.o.id) (-1)) w' ∧ Below w.heap.size w w' := by
 obtain ⟨B1, b1, B2, b2, rfl⟩ := hs.form
 have H := Lib.hid h
 have HS := Lib.hid hs
 have HW := Lib.hid hw
 have HC := Lib.hid hc
 have HP := Lib.hid hp
 obtain ⟨id, hid⟩ : ∃ id, p.o.id = id := ⟨_, rfl⟩
 have HID := Lib.hid hid
 obtain ⟨W4, hW4⟩ : ∃ W4, ((w.alloc (.cells #[.slice A ws.length c] 24)).alloc (.cells #[.slice B1 s.river.length b1, .slice B2 s.boards.length b2] 46)).alloc (.cells #[.int .i64 0, .int .i64 0, .slice none 0 0, .slice none 0 0, .slice none 0 0, .slice none 0 0, .slice none 0 0, .slice none 0 0, .slice none 0 0, .slice none 0 0] 50) = W4 := ⟨_, rfl⟩
 have S4 : Hid (EnS w (.slice A ws.length c) (.slice B1 s.river.length b1) (.slice B2 s.boards.length b2) W4) := Lib.hid (by rw [← hW4]; exact ⟨by simp [go_sem], by simp [go_sem], by simp [go_sem], fun j hj => by
  match j, hj with
  | 0, _ => exact ⟨by simp [go_sem], by simp [go_sem]⟩
  | 1, _ => exact ⟨by simp [go_sem], by simp [go_sem]⟩
  | 2, _ => exact ⟨by simp [go_sem], by simp [go_sem]⟩
  | 3, _ => exact ⟨by simp [go_sem], by simp [go_sem]⟩
  | 4, _ => exact ⟨by simp [go_sem], by simp [go_sem]⟩
  | 5, _ => exact ⟨by simp [go_sem], by simp [go_sem]⟩
  | 6, _ => exact ⟨by simp [go_sem], by simp [go_sem]⟩
  | 7, _ => exact ⟨by simp [go_sem], by simp [go_sem]⟩
  | 8, _ => exact ⟨by simp [go_sem], by simp [go_sem]⟩
  | 9, _ => exact ⟨by simp [go_sem], by simp [go_sem]⟩
  | j + 10, hj => omega, (((Below.refl _ _).alloc (Nat.le_refl _) _).alloc (by simp) _).alloc (by simp; omega) _⟩)
 have Z4 : Hid (w.heap.size + 3 ≤ W4.heap.size) := Lib.hid S4.out.siz
 have HW4 := Lib.hid hW4
 rw [hid]
 clear h hs hw hc hp hid hW4
 obtain ⟨x, hx⟩ : ∃ x, exW ws s (endE ws id) 1 = x := ⟨_, rfl⟩
 obtain ⟨y, hy⟩ : ∃ y, exW ws s (endE ws id) (-1) = y := ⟨_, rfl⟩
 have CX : Hid (∀ way side, (way = 1 ∨ way = -1) → side = -way → ∀ W, Below W4.heap.size W4 W → Calls Try.prog 140 #[.agg #[.slice A ws.length c], .agg #[.slice B1 s.river.length b1, .slice B2 s.boards.length b2], .int .i64 i, .int .i64 side] W fun ed w' => ∃ v1 v2 v3 v4, ed = .returned (.agg #[v1, v2, v3, v4]) ∧ OwnG encI 1 3 W.heap.size v1 (exW ws s (endE ws id) way).river w' ∧ OwnG encI 1 3 W.heap.size v2 (exW ws s (endE ws id) way).boards w' ∧ OwnG encI 1 3 W.heap.size v3 (exW ws s (endE ws id) way).leaks w' ∧ OwnG encI 1 3 W.heap.size v4 (exW ws s (endE ws id) way).losses w' ∧ Below W.heap.size W w') := Lib.hid fun way side hway hside W hb => by
  have hbw := S4.out.bel.trans (hb.mono S4.out.bel.size)
  refine (rcorner_any A c _ ws s i p way side W (H.out.up hbw.size hbw) (HS.out.up hbw.size hbw) HW.out HC.out HP.out hway hside).mono ?_
  rintro e w' ⟨v, rfl, ⟨v1, v2, v3, v4, rfl, o1, o2, o3, o4, -⟩, bb⟩
  rw [HID.out] at o1 o2 o3 o4
  exact ⟨v1, v2, v3, v4, rfl, o1, o2, o3, o4, bb⟩
 have HXY : Hid (WaOk ws x ∧ WaOk ws y ∧ (flowF ws x).thr.getD i 0 = flE ws s id i 1 ∧ (flowF ws y).thr.getD i 0 = flE ws s id i (-1) ∧ exW ws s (endE ws id) 1 = x ∧ exW ws s (endE ws id) (-1) = y) := Lib.hid ⟨by rw [← hx]; exact exW_ok HW.out HC.out _ _, by rw [← hy]; exact exW_ok HW.out HC.out _ _, by rw [← hx]; rfl, by rw [← hy]; rfl, hx, hy⟩
 have CX1 := Lib.hid (CX.out 1 (-1) (.inl rfl) rfl)
 have CX2 := Lib.hid (CX.out (-1) 1 (.inr rfl) rfl)
 rw [hx] at CX1
 rw [hy] at CX2
 clear hx hy CX
 go_enter Try.func125, Try.ntmps125
 go_upto_region 1 with fail
 rw [HW4.out]
 go_cut [7] (fun s7 wx => ∃ (g : Nat) (a1 a2 a3 a4 d1 d2 d3 d4 : Value), s7 = .pointer (some ⟨g, 0, none⟩) ∧ EnR W4 g 0 0 a1 a2 a3 a4 d1 d2 d3 d4 x y wx)
 case first =>
  obtain ⟨Wd, hWd⟩ : ∃ Wd, W4.drew = Wd := ⟨_, rfl⟩
  have bD : Below W4.heap.size W4 Wd := by rw [← hWd]; exact (Below.refl _ _).drew
  have HB4 := Lib.hid bD
  have HD4 : Hid (W4.heap.size ≤ Wd.heap.size) := Lib.hid bD.size
  have k0 := BelS.c bD S4.out.wk
  have k1 := BelS.c bD S4.out.ca
  have k2 := BelS.c bD S4.out.cb
  have CX1 := Lib.hid fun W (hb : Below Wd.heap.size Wd W) => CX1.out W (HB4.out.trans (hb.mono HD4.out))
  have CX2 := Lib.hid fun W (hb : Below Wd.heap.size Wd W) => CX2.out W (HB4.out.trans (hb.mono HD4.out))
  have HWd := Lib.hid hWd
  clear hWd bD
  refine wp_region_T 10 (S := BelS Wd) (by kernel_rfl) (by rw [HWd.out]; exact Below.refl _ _) (fun J0 => ?_)
  rw [HWd.out] at J0 ⊢
  have KK1 := Lib.hid fun (w_ : World) (hSw : BelS _ w_) => And.intro (hSw.c k0) (And.intro (hSw.c k1) (hSw.c k2))
  refine tq KK1 0 8 J0 ?_
  try simp only [aS]
  refine tq KK1 1 9 J0 ?_
  try simp only [aS]
  refine tq KK1 2 10 J0 ?_
  try simp only [aS]
  refine tq KK1 4 12 J0 ?_
  try simp only [aS]
  refine tq KK1 5 13 J0 ?_
  try simp only [aS]
  refine tq KK1 6 14 J0 ?_
  try simp only [aS]
  refine twoT (i := 3) (j := 9) (by kernel_rfl) rfl rfl (fun K hK => ?_) (fun K hK => ?_)
  ·go_simp
   refine (CX1.out _ (BelS.b J0)).mono ?_
   rintro e wq1 ⟨a1, a2, a3, a4, rfl, o1, o2, o3, o4, bq1⟩
   have na1 : ∀ b, a1.ownBlock = some b → Wd.heap.size ≤ b ∧ b < wq1.heap.size := fun b hb => o1.lt b hb
   have na2 : ∀ b, a2.ownBlock = some b → Wd.heap.size ≤ b ∧ b < wq1.heap.size := fun b hb => o2.lt b hb
   have na3 : ∀ b, a3.ownBlock = some b → Wd.heap.size ≤ b ∧ b < wq1.heap.size := fun b hb => o3.lt b hb
   have na4 : ∀ b, a4.ownBlock = some b → Wd.heap.size ≤ b ∧ b < wq1.heap.size := fun b hb => o4.lt b hb
   have o1 := o1.low (base' := W4.heap.size) (by have := Below.size J0; have := HD4.out; omega)
   have o2 := o2.low (base' := W4.heap.size) (by have := Below.size J0; have := HD4.out; omega)
   have o3 := o3.low (base' := W4.heap.size) (by have := Below.size J0; have := HD4.out; omega)
   have o4 := o4.low (base' := W4.heap.size) (by have := Below.size J0; have := HD4.out; omega)
   have J1 := J0.below bq1
   have sz1 := bq1.size
   refine hK.out _ _ J1 ?_
   clear hK K
   try simp only [aS]
   refine twoT (i := 7) (j := 9) (by kernel_rfl) rfl rfl (fun K hK => ?_) (fun K hK => ?_)
   ·go_simp
    refine (CX2.out _ (BelS.b J1)).mono ?_
    rintro e wq2 ⟨d1, d2, d3, d4, rfl, p1, p2, p3, p4, bq2⟩
    have nd1 : ∀ b, d1.ownBlock = some b → wq1.heap.size ≤ b ∧ b < wq2.heap.size := fun b hb => p1.lt b hb
    have nd2 : ∀ b, d2.ownBlock = some b → wq1.heap.size ≤ b ∧ b < wq2.heap.size := fun b hb => p2.lt b hb
    have nd3 : ∀ b, d3.ownBlock = some b → wq1.heap.size ≤ b ∧ b < wq2.heap.size := fun b hb => p3.lt b hb
    have nd4 : ∀ b, d4.ownBlock = some b → wq1.heap.size ≤ b ∧ b < wq2.heap.size := fun b hb => p4.lt b hb
    have p1 := p1.low (base' := W4.heap.size) (by have := Below.size J1; have := HD4.out; omega)
    have p2 := p2.low (base' := W4.heap.size) (by have := Below.size J1; have := HD4.out; omega)
    have p3 := p3.low (base' := W4.heap.size) (by have := Below.size J1; have := HD4.out; omega)
    have p4 := p4.low (base' := W4.heap.size) (by have := Below.size J1; have := HD4.out; omega)
    have J2 := J1.below bq2
    have sz2 := bq2.size
    have o1 := o1.below bq2
    have o2 := o2.below bq2
    have o3 := o3.below bq2
    have o4 := o4.below bq2
    refine hK.out _ _ J2 ?_
    clear hK K
    try simp only [aS]
    refine tt 8 16 J2 ?_
    try simp only [aS]
    refine oneT (i := 9) (by kernel_rfl) rfl (fun K hK => ?_)
    go_simp
    obtain ⟨wq3, hwq3⟩ : ∃ wq3, wq2.alloc (.cells #[.int .i64 0, .int .i64 0, .slice none 0 0, .slice none 0 0, .slice none 0 0, .slice none 0 0, .slice none 0 0, .slice none 0 0, .slice none 0 0, .slice none 0 0] 50) = wq3 := ⟨_, rfl⟩
    have bq3 : Below wq2.heap.size wq2 wq3 := by rw [← hwq3]; exact (Below.refl _ _).alloc (Nat.le_refl _) _
    obtain ⟨g, hge⟩ : ∃ g, wq2.heap.size = g := ⟨_, rfl⟩
    have tg : wq3.there g 0 10 := by rw [← hwq3, ← hge]; exact tenZ _
    have hg : g < wq3.heap.size := there_lt tg (by decide)
    rw [hwq3]
    try rw [hge]
    have J3 := J2.below bq3
    have o1 := o1.below bq3
    have o2 := o2.below bq3
    have o3 := o3.below bq3
    have o4 := o4.below bq3
    have p1 := p1.below bq3
    have p2 := p2.below bq3
    have p3 := p3.below bq3
    have p4 := p4.below bq3
    have hgW : W4.heap.size ≤ g := by have := Below.size J2; have := HD4.out; omega
    have ma1 : a1.ownBlock ≠ some g := fun hb => by have := (na1 g hb).2; omega
    have ma2 : a2.ownBlock ≠ some g := fun hb => by have := (na2 g hb).2; omega
    have ma3 : a3.ownBlock ≠ some g := fun hb => by have := (na3 g hb).2; omega
    have ma4 : a4.ownBlock ≠ some g := fun hb => by have := (na4 g hb).2; omega
    have md1 : d1.ownBlock ≠ some g := fun hb => by have := (nd1 g hb).2; omega
    have md2 : d2.ownBlock ≠ some g := fun hb => by have := (nd2 g hb).2; omega
    have md3 : d3.ownBlock ≠ some g := fun hb => by have := (nd3 g hb).2; omega
    have md4 : d4.ownBlock ≠ some g := fun hb => by have := (nd4 g hb).2; omega
    have HH3 := Lib.hid (And.intro hge hwq3)
    clear hge hwq3
    refine hK.out _ _ J3 ?_
    clear hK K
    try simp only [aS]
    refine lastT (by kernel_rfl) rfl (fun K hK => ?_)
    have RS := run_storeAt_mid (P := Try.prog) wq3 g 0 50 #[.int .i64 0, .int .i64 0, a1, a2, a3, a4, d1, d2, d3, d4] tg (by kernel_rfl) (tenOne o1 o2 o3 o4 p1 p2 p3 p4)
    rw [if_pos (by rfl)]
    refine wp_store_run 50 _ _ rfl (u := .pointer (some ⟨g, 0, none⟩)) (v := .agg #[.int .i64 0, .int .i64 0, a1, a2, a3, a4, d1, d2, d3, d4]) rfl rfl RS ?_
    refine hK.out _ _ ?_
    clear hK K
    refine doneT (by kernel_rfl) ?_ _
    have ER := EnR.make (g := g) hgW (HB4.out.trans (Below.mono J3 HD4.out)) tg 0 0 o1 o2 o3 o4 p1 p2 p3 p4 (by simp only [List.mem_cons, List.not_mem_nil, or_false]; rintro v (rfl | rfl | rfl | rfl | rfl | rfl | rfl | rfl) <;> assumption)
    have ER := Lib.hid ER
    clear o1 o2 o3 o4 p1 p2 p3 p4 tg hg RS
    go_wp2_with fail
    go_meet
    exact ⟨g, a1, a2, a3, a4, d1, d2, d3, d4, rfl, ER.out⟩
   ·go_simp
    obtain ⟨wq2, hwq2⟩ : ∃ wq2, wq1.alloc (.cells #[.int .i64 0, .int .i64 0, .slice none 0 0, .slice none 0 0, .slice none 0 0, .slice none 0 0, .slice none 0 0, .slice none 0 0, .slice none 0 0, .slice none 0 0] 50) = wq2 := ⟨_, rfl⟩
    have bq2 : Below wq1.heap.size wq1 wq2 := by rw [← hwq2]; exact (Below.refl _ _).alloc (Nat.le_refl _) _
    obtain ⟨g, hge⟩ : ∃ g, wq1.heap.size = g := ⟨_, rfl⟩
    have tg : wq2.there g 0 10 := by rw [← hwq2, ← hge]; exact tenZ _
    have hg : g < wq2.heap.size := there_lt tg (by decide)
    rw [hwq2]
    try rw [hge]
    have J2 := J1.below bq2
    have o1 := o1.below bq2
    have o2 := o2.below bq2
    have o3 := o3.below bq2
    have o4 := o4.below bq2
    have hgW : W4.heap.size ≤ g := by have := Below.size J1; have := HD4.out; omega
    have ma1 : a1.ownBlock ≠ some g := fun hb => by have := (na1 g hb).2; omega
    have ma2 : a2.ownBlock ≠ some g := fun hb => by have := (na2 g hb).2; omega
    have ma3 : a3.ownBlock ≠ some g := fun hb => by have := (na3 g hb).2; omega
    have ma4 : a4.ownBlock ≠ some g := fun hb => by have := (na4 g hb).2; omega
    have HH2 := Lib.hid (And.intro hge hwq2)
    clear hge hwq2
    refine hK.out _ _ J2 ?_
    clear hK K
    try simp only [aS]
    refine oneT (i := 7) (by kernel_rfl) rfl (fun K hK => ?_)
    go_simp
    refine (CX2.out _ (BelS.b J2)).mono ?_
    rintro e wq3 ⟨d1, d2, d3, d4, rfl, p1, p2, p3, p4, bq3⟩
    have nd1 : ∀ b, d1.ownBlock = some b → wq2.heap.size ≤ b ∧ b < wq3.heap.size := fun b hb => p1.lt b hb
    have nd2 : ∀ b, d2.ownBlock = some b → wq2.heap.size ≤ b ∧ b < wq3.heap.size := fun b hb => p2.lt b hb
    have nd3 : ∀ b, d3.ownBlock = some b → wq2.heap.size ≤ b ∧ b < wq3.heap.size := fun b hb => p3.lt b hb
    have nd4 : ∀ b, d4.ownBlock = some b → wq2.heap.size ≤ b ∧ b < wq3.heap.size := fun b hb => p4.lt b hb
    have p1 := p1.low (base' := W4.heap.size) (by have := Below.size J2; have := HD4.out; omega)
    have p2 := p2.low (base' := W4.heap.size) (by have := Below.size J2; have := HD4.out; omega)
    have p3 := p3.low (base' := W4.heap.size) (by have := Below.size J2; have := HD4.out; omega)
    have p4 := p4.low (base' := W4.heap.size) (by have := Below.size J2; have := HD4.out; omega)
    have J3 := J2.below bq3
    have sz3 := bq3.size
    have o1 := o1.below bq3
    have o2 := o2.below bq3
    have o3 := o3.below bq3
    have o4 := o4.below bq3
    have tg := there_below tg hg bq3
    have hg := Nat.lt_of_lt_of_le hg bq3.size
    refine hK.out _ _ J3 ?_
    clear hK K
    try simp only [aS]
    refine tt 8 16 J3 ?_
    try simp only [aS]
    refine lastT (by kernel_rfl) rfl (fun K hK => ?_)
    have md1 : d1.ownBlock ≠ some g := fun hb => by have := (nd1 g hb).1; omega
    have md2 : d2.ownBlock ≠ some g := fun hb => by have := (nd2 g hb).1; omega
    have md3 : d3.ownBlock ≠ some g := fun hb => by have := (nd3 g hb).1; omega
    have md4 : d4.ownBlock ≠ some g := fun hb => by have := (nd4 g hb).1; omega
    have RS := run_storeAt_mid (P := Try.prog) wq3 g 0 50 #[.int .i64 0, .int .i64 0, a1, a2, a3, a4, d1, d2, d3, d4] tg (by kernel_rfl) (tenOne o1 o2 o3 o4 p1 p2 p3 p4)
    rw [if_pos (by rfl)]
    refine wp_store_run 50 _ _ rfl (u := .pointer (some ⟨g, 0, none⟩)) (v := .agg #[.int .i64 0, .int .i64 0, a1, a2, a3, a4, d1, d2, d3, d4]) rfl rfl RS ?_
    refine hK.out _ _ ?_
    clear hK K
    refine doneT (by kernel_rfl) ?_ _
    have ER := EnR.make (g := g) hgW (HB4.out.trans (Below.mono J3 HD4.out)) tg 0 0 o1 o2 o3 o4 p1 p2 p3 p4 (by simp only [List.mem_cons, List.not_mem_nil, or_false]; rintro v (rfl | rfl | rfl | rfl | rfl | rfl | rfl | rfl) <;> assumption)
    have ER := Lib.hid ER
    clear o1 o2 o3 o4 p1 p2 p3 p4 tg hg RS
    go_wp2_with fail
    go_meet
    exact ⟨g, a1, a2, a3, a4, d1, d2, d3, d4, rfl, ER.out⟩
  ·go_simp
   obtain ⟨wq1, hwq1⟩ : ∃ wq1, Wd.alloc (.cells #[.int .i64 0, .int .i64 0, .slice none 0 0, .slice none 0 0, .slice none 0 0, .slice none 0 0, .slice none 0 0, .slice none 0 0, .slice none 0 0, .slice none 0 0] 50) = wq1 := ⟨_, rfl⟩
   have bq1 : Below Wd.heap.size Wd wq1 := by rw [← hwq1]; exact (Below.refl _ _).alloc (Nat.le_refl _) _
   obtain ⟨g, hge⟩ : ∃ g, Wd.heap.size = g := ⟨_, rfl⟩
   have tg : wq1.there g 0 10 := by rw [← hwq1, ← hge]; exact tenZ _
   have hg : g < wq1.heap.size := there_lt tg (by decide)
   rw [hwq1]
   try rw [hge]
   have J1 := J0.below bq1
   have hgW : W4.heap.size ≤ g := by have := Below.size J0; have := HD4.out; omega
   have HH1 := Lib.hid (And.intro hge hwq1)
   clear hge hwq1
   refine hK.out _ _ J1 ?_
   clear hK K
   try simp only [aS]
   refine oneT (i := 3) (by kernel_rfl) rfl (fun K hK => ?_)
   go_simp
   refine (CX1.out _ (BelS.b J1)).mono ?_
   rintro e wq2 ⟨a1, a2, a3, a4, rfl, o1, o2, o3, o4, bq2⟩
   have na1 : ∀ b, a1.ownBlock = some b → wq1.heap.size ≤ b ∧ b < wq2.heap.size := fun b hb => o1.lt b hb
   have na2 : ∀ b, a2.ownBlock = some b → wq1.heap.size ≤ b ∧ b < wq2.heap.size := fun b hb => o2.lt b hb
   have na3 : ∀ b, a3.ownBlock = some b → wq1.heap.size ≤ b ∧ b < wq2.heap.size := fun b hb => o3.lt b hb
   have na4 : ∀ b, a4.ownBlock = some b → wq1.heap.size ≤ b ∧ b < wq2.heap.size := fun b hb => o4.lt b hb
   have o1 := o1.low (base' := W4.heap.size) (by have := Below.size J1; have := HD4.out; omega)
   have o2 := o2.low (base' := W4.heap.size) (by have := Below.size J1; have := HD4.out; omega)
   have o3 := o3.low (base' := W4.heap.size) (by have := Below.size J1; have := HD4.out; omega)
   have o4 := o4.low (base' := W4.heap.size) (by have := Below.size J1; have := HD4.out; omega)
   have J2 := J1.below bq2
   have sz2 := bq2.size
   have tg := there_below tg hg bq2
   have hg := Nat.lt_of_lt_of_le hg bq2.size
   refine hK.out _ _ J2 ?_
   clear hK K
   try simp only [aS]
   refine oneT (i := 7) (by kernel_rfl) rfl (fun K hK => ?_)
   go_simp
   refine (CX2.out _ (BelS.b J2)).mono ?_
   rintro e wq3 ⟨d1, d2, d3, d4, rfl, p1, p2, p3, p4, bq3⟩
   have nd1 : ∀ b, d1.ownBlock = some b → wq2.heap.size ≤ b ∧ b < wq3.heap.size := fun b hb => p1.lt b hb
   have nd2 : ∀ b, d2.ownBlock = some b → wq2.heap.size ≤ b ∧ b < wq3.heap.size := fun b hb => p2.lt b hb
   have nd3 : ∀ b, d3.ownBlock = some b → wq2.heap.size ≤ b ∧ b < wq3.heap.size := fun b hb => p3.lt b hb
   have nd4 : ∀ b, d4.ownBlock = some b → wq2.heap.size ≤ b ∧ b < wq3.heap.size := fun b hb => p4.lt b hb
   have p1 := p1.low (base' := W4.heap.size) (by have := Below.size J2; have := HD4.out; omega)
   have p2 := p2.low (base' := W4.heap.size) (by have := Below.size J2; have := HD4.out; omega)
   have p3 := p3.low (base' := W4.heap.size) (by have := Below.size J2; have := HD4.out; omega)
   have p4 := p4.low (base' := W4.heap.size) (by have := Below.size J2; have := HD4.out; omega)
   have J3 := J2.below bq3
   have sz3 := bq3.size
   have o1 := o1.below bq3
   have o2 := o2.below bq3
   have o3 := o3.below bq3
   have o4 := o4.below bq3
   have tg := there_below tg hg bq3
   have hg := Nat.lt_of_lt_of_le hg bq3.size
   refine hK.out _ _ J3 ?_
   clear hK K
   try simp only [aS]
   refine tt 8 16 J3 ?_
   try simp only [aS]
   refine lastT (by kernel_rfl) rfl (fun K hK => ?_)
   have ma1 : a1.ownBlock ≠ some g := fun hb => by have := (na1 g hb).1; omega
   have ma2 : a2.ownBlock ≠ some g := fun hb => by have := (na2 g hb).1; omega
   have ma3 : a3.ownBlock ≠ some g := fun hb => by have := (na3 g hb).1; omega
   have ma4 : a4.ownBlock ≠ some g := fun hb => by have := (na4 g hb).1; omega
   have md1 : d1.ownBlock ≠ some g := fun hb => by have := (nd1 g hb).1; omega
   have md2 : d2.ownBlock ≠ some g := fun hb => by have := (nd2 g hb).1; omega
   have md3 : d3.ownBlock ≠ some g := fun hb => by have := (nd3 g hb).1; omega
   have md4 : d4.ownBlock ≠ some g := fun hb => by have := (nd4 g hb).1; omega
   have RS := run_storeAt_mid (P := Try.prog) wq3 g 0 50 #[.int .i64 0, .int .i64 0, a1, a2, a3, a4, d1, d2, d3, d4] tg (by kernel_rfl) (tenOne o1 o2 o3 o4 p1 p2 p3 p4)
   rw [if_pos (by rfl)]
   refine wp_store_run 50 _ _ rfl (u := .pointer (some ⟨g, 0, none⟩)) (v := .agg #[.int .i64 0, .int .i64 0, a1, a2, a3, a4, d1, d2, d3, d4]) rfl rfl RS ?_
   refine hK.out _ _ ?_
   clear hK K
   refine doneT (by kernel_rfl) ?_ _
   have ER := EnR.make (g := g) hgW (HB4.out.trans (Below.mono J3 HD4.out)) tg 0 0 o1 o2 o3 o4 p1 p2 p3 p4 (by simp only [List.mem_cons, List.not_mem_nil, or_false]; rintro v (rfl | rfl | rfl | rfl | rfl | rfl | rfl | rfl) <;> assumption)
   have ER := Lib.hid ER
   clear o1 o2 o3 o4 p1 p2 p3 p4 tg hg RS
   go_wp2_with fail
   go_meet
   exact ⟨g, a1, a2, a3, a4, d1, d2, d3, d4, rfl, ER.out⟩
 case rest =>
  obtain ⟨g, a1, a2, a3, a4, d1, d2, d3, d4, rfl, hE⟩ := hcut
  have E5 := Lib.hid hE
  have S5 := Lib.hid (S4.out.grown (GrownL.of_below (bs := []) hE.bel) (by simp))
  have hto := HW.out.tot
  have hil := lt_total HP.out
  have HI60 : Hid (i < 60) := Lib.hid (by omega)
  obtain ⟨f5, hf5⟩ : ∃ f, (flowF ws x).thr[i]? = some f := ⟨_, List.getElem?_eq_getElem (by have := thr_len ws x (total ws) (Nat.le_refl _); show i < (flowTo ws x (total ws)).thr.length; omega)⟩
  obtain ⟨f6, hf6⟩ : ∃ f, (flowF ws y).thr[i]? = some f := ⟨_, List.getElem?_eq_getElem (by have := thr_len ws y (total ws) (Nat.le_refl _); show i < (flowTo ws y (total ws)).thr.length; omega)⟩
  have HFa := Lib.hid hf5
  have HFb := Lib.hid hf6
  have HV : Hid (f5 = flE ws s id i 1 ∧ f6 = flE ws s id i (-1)) := Lib.hid ⟨by rw [← HXY.out.2.2.1, List.getD_eq_getElem?_getD, hf5]; rfl, by rw [← HXY.out.2.2.2.1, List.getD_eq_getElem?_getD, hf6]; rfl⟩
  obtain ⟨nt, hnt⟩ : ∃ nt, total ws = nt := ⟨_, rfl⟩
  have HTLa : Hid ((flowF ws x).thr.length = nt) := Lib.hid (by rw [← hnt]; exact thr_len ws x (total ws) (Nat.le_refl _))
  have HTLb : Hid ((flowF ws y).thr.length = nt) := Lib.hid (by rw [← hnt]; exact thr_len ws y (total ws) (Nat.le_refl _))
  have Nfoa : Hid (nt ≤ 60) := Lib.hid (by omega)
  have Nfob : Hid (nt ≤ 60) := Lib.hid (by omega)
  have hi1 : (i : Int) < (nt : Int) := by omega
  have hi2 : (0 : Int) ≤ (i : Int) := by omega
  clear hE hf5 hf6 hto hil hnt
  go_upto_region 2 with fail
  go_cut [] (fun wx => EnR W4 g f5 f6 a1 a2 a3 a4 d1 d2 d3 d4 x y wx ∧ EnS w (.slice A ws.length c) (.slice B1 s.river.length b1) (.slice B2 s.boards.length b2) wx)
  case first =>
   obtain ⟨Wd, hWd⟩ : ∃ Wd, wc.drew = Wd := ⟨_, rfl⟩
   have bD : Below wc.heap.size wc Wd := by rw [← hWd]; exact (Below.refl _ _).drew
   have ED := Lib.hid (E5.out.below bD)
   have SD := Lib.hid (S5.out.below bD)
   have k0 := SD.out.wk
   have k2 := ED.out.r 2 _ rfl
   have k3 := ED.out.r 3 _ rfl
   have k4 := ED.out.r 4 _ rfl
   have k5 := ED.out.r 5 _ rfl
   have k6 := ED.out.r 6 _ rfl
   have k7 := ED.out.r 7 _ rfl
   have k8 := ED.out.r 8 _ rfl
   have k9 := ED.out.r 9 _ rfl
   simp only [Nat.zero_add] at k2 k3 k4 k5 k6 k7 k8 k9
   have CR1 := Lib.hid fun W (hb : Below Wd.heap.size Wd W) => rflow_any A c _ ws x W (H.out.up (SD.out.bel.trans (hb.mono SD.out.bel.size)).size (SD.out.bel.trans (hb.mono SD.out.bel.size))) ((ED.out.wa1 HXY.out HW.out).up hb.size hb) HW.out HXY.out.1
   have CR2 := Lib.hid fun W (hb : Below Wd.heap.size Wd W) => rflow_any A c _ ws y W (H.out.up (SD.out.bel.trans (hb.mono SD.out.bel.size)).size (SD.out.bel.trans (hb.mono SD.out.bel.size))) ((ED.out.wa2 HXY.out HW.out).up hb.size hb) HW.out HXY.out.2.1
   have HWd := Lib.hid hWd
   clear hWd bD
   refine wp_region_T 18 (S := BelS Wd) (by kernel_rfl) (by rw [HWd.out]; exact Below.refl _ _) (fun J0 => ?_)
   rw [HWd.out] at J0 ⊢
   have KK2 := Lib.hid fun (w_ : World) (hSw : BelS _ w_) => And.intro (hSw.c k0) (And.intro (hSw.c k2) (And.intro (hSw.c k3) (And.intro (hSw.c k4) (And.intro (hSw.c k5) (And.intro (hSw.c k6) (And.intro (hSw.c k7) (And.intro (hSw.c k8) (hSw.c k9))))))))
   refine tq KK2 0 17 J0 ?_
   try simp only [aS]
   refine tt 1 18 J0 ?_
   try simp only [aS]
   refine tq KK2 2 19 J0 ?_
   try simp only [aS]
   refine tt 5 22 J0 ?_
   try simp only [aS]
   refine tq KK2 8 25 J0 ?_
   try simp only [aS]
   refine tt 9 26 J0 ?_
   try simp only [aS]
   refine tq KK2 10 27 J0 ?_
   try simp only [aS]
   refine tt 13 30 J0 ?_
   try simp only [aS]
   refine oneT (i := 3) (by kernel_rfl) rfl (fun K hK => ?_)
   -- the first
   go_simp
   refine (CR1.out _ (BelS.b J0)).mono ?_
   rintro e wqa ⟨va, ua, rfl, oa, pa_, bqa⟩
   have rra := oa.rr EI (by rw [HTLa.out]; have := Nfoa.out; show nt ≤ 1000000000000000; omega)
   obtain ⟨La, ca, rfl, -⟩ := oa.form
   obtain ⟨Ma, ea, rfl, -⟩ := pa_.form
   obtain ⟨ma, hma⟩ : ∃ m, (tailsL ws x).length = m := ⟨_, rfl⟩
   obtain ⟨loa, hloa⟩ : ∃ m, (flowF ws x).lost = m := ⟨_, rfl⟩
   rw [hma, hloa]
   have nna := Nfoa.out
   obtain ⟨ba, ka, rfl, -, qqa⟩ := rra.int HFa.out
   rw [HTLa.out]
   have FFa := fun W => fl_field0 (some ⟨ba, ka, none⟩) Ma nt ca ma ea loa W
   have Jxa := J0.below bqa
   have Jda : BelS Wd wqa := Jxa
   refine hK.out _ _ Jxa ?_
   clear hK K
   refine wpAnyT_mono (S' := BelS wqa) (fun W h => Below.trans Jxa (h.mono (Below.size Jxa))) _ _ _ _ ?_
   have Ja : BelS wqa wqa := Below.refl _ _
   try simp only [aS]
   refine tt 4 21 Ja ?_ (hy := by intro w' hSw; have r1 := FFa w'; go_simp; try with_reducible rfl)
   try simp only [aS]
   refine tt 6 23 Ja ?_
   try simp only [aS]
   refine tt 7 24 Ja ?_ (hy := by intro w' hSw; have r0 := hSw.c qqa; go_simp; try with_reducible rfl)
   try simp only [aS]
   refine oneT (i := 11) (by kernel_rfl) rfl (fun K hK => ?_)
   go_simp
   refine (CR2.out _ (BelS.b Jda)).mono ?_
   rintro e wqb ⟨vb, ub, rfl, ob, pb_, bqb⟩
   have rrb := ob.rr EI (by rw [HTLb.out]; have := Nfob.out; show nt ≤ 1000000000000000; omega)
   obtain ⟨Lb, cb, rfl, -⟩ := ob.form
   obtain ⟨Mb, eb, rfl, -⟩ := pb_.form
   obtain ⟨mb, hmb⟩ : ∃ m, (tailsL ws y).length = m := ⟨_, rfl⟩
   obtain ⟨lob, hlob⟩ : ∃ m, (flowF ws y).lost = m := ⟨_, rfl⟩
   rw [hmb, hlob]
   have nnb := Nfob.out
   obtain ⟨bb, kb, rfl, -, qqb⟩ := rrb.int HFb.out
   rw [HTLb.out]
   have FFb := fun W => fl_field0 (some ⟨bb, kb, none⟩) Mb nt cb mb eb lob W
   have Jxb := Ja.below bqb
   have Jdb : BelS Wd wqb := Jda.below (Jxb)
   refine hK.out _ _ Jxb ?_
   clear hK K
   refine wpAnyT_mono (S' := BelS wqb) (fun W h => Below.trans Jxb (h.mono (Below.size Jxb))) _ _ _ _ ?_
   have Jb : BelS wqb wqb := Below.refl _ _
   try simp only [aS]
   refine tt 12 29 Jb ?_ (hy := by intro w' hSw; have r1 := FFb w'; go_simp; try with_reducible rfl)
   try simp only [aS]
   refine tt 14 31 Jb ?_
   try simp only [aS]
   refine tt 15 32 Jb ?_ (hy := by intro w' hSw; have r0 := hSw.c qqb; go_simp; try with_reducible rfl)
   try simp only [aS]
   refine tt 16 33 Jb ?_
   try simp only [aS]
   refine tt 17 34 Jb ?_
   try simp only [aS]
   refine lastT (by kernel_rfl) rfl (fun K hK => ?_)
   have EQ := Lib.hid (ED.out.below Jdb)
   have SQ := Lib.hid (SD.out.below Jdb)
   have RS := run_storeAt_mid (P := Try.prog) wqb g 0 40 #[.int .i64 f5, .int .i64 f6] (fun j hj => EQ.out.th j (by have h9 : j < 2 := hj; omega)) (by kernel_rfl) (all_oneCell_toArray (cs := [.int .i64 f5, .int .i64 f6]) (fun v hv => by simp at hv; rcases hv with rfl | rfl <;> rfl))
   rw [if_pos (by rfl)]
   refine wp_store_run 40 _ _ rfl (u := .pointer (some ⟨g, 0, none⟩)) (v := .agg #[.int .i64 f5, .int .i64 f6]) rfl rfl RS ?_
   refine hK.out _ _ ?_
   clear hK K
   refine doneT (by kernel_rfl) ?_ _
   obtain ⟨W7, hW7⟩ : ∃ W7, wqb.setCells g 0 [.int .i64 f5, .int .i64 f6] = W7 := ⟨_, rfl⟩
   have e7 : (wqb.setCell ⟨g, 0, none⟩ (.int .i64 f5)).setCell ⟨g, 1, none⟩ (.int .i64 f6) = W7 := hW7
   have E7 : Hid (EnR W4 g f5 f6 a1 a2 a3 a4 d1 d2 d3 d4 x y W7) := Lib.hid (by rw [← e7]; exact ((EQ.out.one f5).1.one f6).2)
   have g7 : GrownL [g] wqb W7 := by rw [← e7]; exact (GrownL.set _ _ _ (by simp)).trans (GrownL.set _ _ _ (by simp))
   have S7 := Lib.hid (SQ.out.grown g7 (by have := EQ.out.ge; have := Z4.out; simp; omega))
   try simp only [List.toArray, Array.toList] at hW7 ⊢
   rw [hW7]
   go_wp2_with fail
   go_meet
   exact ⟨E7.out, S7.out⟩
  case rest =>
   obtain ⟨hE7, hS7⟩ := hcut
   have E7 := Lib.hid hE7
   have S7 := Lib.hid hS7
   clear hE7 hS7 E5 S5
   obtain ⟨W7, hW7⟩ : ∃ W7, wc = W7 := ⟨_, rfl⟩
   rw [hW7] at E7 S7 ⊢
   clear hW7
   obtain ⟨Ao1, ko1, rfl, -⟩ := E7.out.o1.form
   obtain ⟨Ao2, ko2, rfl, -⟩ := E7.out.o2.form
   obtain ⟨Ao3, ko3, rfl, -⟩ := E7.out.o3.form
   obtain ⟨Ao4, ko4, rfl, -⟩ := E7.out.o4.form
   obtain ⟨Ap1, kp1, rfl, -⟩ := E7.out.p1.form
   obtain ⟨Ap2, kp2, rfl, -⟩ := E7.out.p2.form
   obtain ⟨Ap3, kp3, rfl, -⟩ := E7.out.p3.form
   obtain ⟨Ap4, kp4, rfl, -⟩ := E7.out.p4.form
   obtain ⟨v0, t0⟩ := Option.isSome_iff_exists.1 (S7.out.th 0 (by decide)).1
   have z0 := (S7.out.th 0 (by decide)).2
   obtain ⟨v1, t1⟩ := Option.isSome_iff_exists.1 (S7.out.th 1 (by decide)).1
   have z1 := (S7.out.th 1 (by decide)).2
   obtain ⟨v2, t2⟩ := Option.isSome_iff_exists.1 (S7.out.th 2 (by decide)).1
   have z2 := (S7.out.th 2 (by decide)).2
   obtain ⟨v3, t3⟩ := Option.isSome_iff_exists.1 (S7.out.th 3 (by decide)).1
   have z3 := (S7.out.th 3 (by decide)).2
   obtain ⟨v4, t4⟩ := Option.isSome_iff_exists.1 (S7.out.th 4 (by decide)).1
   have z4 := (S7.out.th 4 (by decide)).2
   obtain ⟨v5, t5⟩ := Option.isSome_iff_exists.1 (S7.out.th 5 (by decide)).1
   have z5 := (S7.out.th 5 (by decide)).2
   obtain ⟨v6, t6⟩ := Option.isSome_iff_exists.1 (S7.out.th 6 (by decide)).1
   have z6 := (S7.out.th 6 (by decide)).2
   obtain ⟨v7, t7⟩ := Option.isSome_iff_exists.1 (S7.out.th 7 (by decide)).1
   have z7 := (S7.out.th 7 (by decide)).2
   obtain ⟨v8, t8⟩ := Option.isSome_iff_exists.1 (S7.out.th 8 (by decide)).1
   have z8 := (S7.out.th 8 (by decide)).2
   obtain ⟨v9, t9⟩ := Option.isSome_iff_exists.1 (S7.out.th 9 (by decide)).1
   have z9 := (S7.out.th 9 (by decide)).2
   simp only [Nat.zero_add] at t0 z0 t1 z1 t2 z2 t3 z3 t4 z4 t5 z5 t6 z6 t7 z7 t8 z8 t9 z9
   have c0 := E7.out.r 0 _ rfl
   have c1 := E7.out.r 1 _ rfl
   have c2 := E7.out.r 2 _ rfl
   have c3 := E7.out.r 3 _ rfl
   have c4 := E7.out.r 4 _ rfl
   have c5 := E7.out.r 5 _ rfl
   have c6 := E7.out.r 6 _ rfl
   have c7 := E7.out.r 7 _ rfl
   have c8 := E7.out.r 8 _ rfl
   have c9 := E7.out.r 9 _ rfl
   simp only [Nat.zero_add] at c0 c1 c2 c3 c4 c5 c6 c7 c8 c9
   go_wp2_with fail
   clear c0 t0 z0 c1 t1 z1 c2 t2 z2 c3 t3 z3 c4 t4 z4 c5 t5 z5 c6 t6 z6 c7 t7 z7 c8 t8 z8 c9 t9 z9
   obtain ⟨W8, hW8⟩ : ∃ W8, ((((((((((W7.setCell ⟨w.heap.size + 1 + 1, 0, none⟩ (.int .i64 f5)).setCell ⟨w.heap.size + 1 + 1, 1, none⟩ (.int .i64 f6)).setCell ⟨w.heap.size + 1 + 1, 2, none⟩ (.slice Ao1 x.river.length ko1)).setCell ⟨w.heap.size + 1 + 1, 3, none⟩ (.slice Ao2 x.boards.length ko2)).setCell ⟨w.heap.size + 1 + 1, 4, none⟩ (.slice Ao3 x.leaks.length ko3)).setCell ⟨w.heap.size + 1 + 1, 5, none⟩ (.slice Ao4 x.losses.length ko4)).setCell ⟨w.heap.size + 1 + 1, 6, none⟩ (.slice Ap1 y.river.length kp1)).setCell ⟨w.heap.size + 1 + 1, 7, none⟩ (.slice Ap2 y.boards.length kp2)).setCell ⟨w.heap.size + 1 + 1, 8, none⟩ (.slice Ap3 y.leaks.length kp3)).setCell ⟨w.heap.size + 1 + 1, 9, none⟩ (.slice Ap4 y.losses.length kp4)) = W8 := ⟨_, rfl⟩
   have e8 : W7.setCells (w.heap.size + 1 + 1) 0 [.int .i64 f5, .int .i64 f6, .slice Ao1 x.river.length ko1, .slice Ao2 x.boards.length ko2, .slice Ao3 x.leaks.length ko3, .slice Ao4 x.losses.length ko4, .slice Ap1 y.river.length kp1, .slice Ap2 y.boards.length kp2, .slice Ap3 y.leaks.length kp3, .slice Ap4 y.losses.length kp4] = W8 := hW8
   have r8 : W8.rangeAt (w.heap.size + 1 + 1) 0 [.int .i64 f5, .int .i64 f6, .slice Ao1 x.river.length ko1, .slice Ao2 x.boards.length ko2, .slice Ao3 x.leaks.length ko3, .slice Ao4 x.losses.length ko4, .slice Ap1 y.river.length kp1, .slice Ap2 y.boards.length kp2, .slice Ap3 y.leaks.length kp3, .slice Ap4 y.losses.length kp4] := by rw [← e8]; exact World.rangeAt_setCells_same _ _ _ _ S7.out.th
   have g8 : GrownL [w.heap.size + 2] W7 W8 := by rw [← e8]; exact GrownL.setCells _ _ _ _ _ (by simp)
   rw [hW8]
   have c0 := r8 0 _ rfl
   have c1 := r8 1 _ rfl
   have c2 := r8 2 _ rfl
   have c3 := r8 3 _ rfl
   have c4 := r8 4 _ rfl
   have c5 := r8 5 _ rfl
   have c6 := r8 6 _ rfl
   have c7 := r8 7 _ rfl
   have c8 := r8 8 _ rfl
   have c9 := r8 9 _ rfl
   simp only [Nat.zero_add] at c0 c1 c2 c3 c4 c5 c6 c7 c8 c9
   have nb : ∀ b, W4.heap.size ≤ b → b ∉ [w.heap.size + 2] := fun b hb hm => by have := Z4.out; simp at hm; omega
   have E8 := E7.out.reads g8 nb HXY.out HW.out
   have Z4' := Z4.out
   have GB := S7.out.bel.trans (g8.below (B := w.heap.size) (by simp) S7.out.bel.size)
   refine bodyPost_ret (v := .agg #[.int .i64 f5, .int .i64 f6, .slice Ao1 x.river.length ko1, .slice Ao2 x.boards.length ko2, .slice Ao3 x.leaks.length ko3, .slice Ao4 x.losses.length ko4, .slice Ap1 y.river.length kp1, .slice Ap2 y.boards.length kp2, .slice Ap3 y.leaks.length kp3, .slice Ap4 y.losses.length kp4]) (by simp [results, Try.results125, go_sem, c0, c1, c2, c3, c4, c5, c6, c7, c8, c9]) rfl ⟨_, _, _, _, _, _, _, _, by rw [HV.out.1, HV.out.2], ?_, ?_, GB⟩
   ·rw [HXY.out.2.2.2.2.1]; exact E8.1.low (by have := Z4.out; omega)
   ·rw [HXY.out.2.2.2.2.2]; exact E8.2.low (by have := Z4.out; omega)
end Go.Proofs.Ytkoacclbempmdaa
