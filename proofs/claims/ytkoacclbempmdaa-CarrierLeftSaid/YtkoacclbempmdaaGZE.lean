/- Contract of Open. -/
import Derived.Test.YtkoacclbempmdaaGZD
namespace Go.Proofs.Ytkoacclbempmdaa
open Go.RowKit
attribute [local go_sem] Oper.semAt_some

def openP (ws : Wk) (s : Wa) (want : Int) (i : Nat) (k : Nat) : Bool := decide (want ≤ (flowF ws (setB s i k)).thr.getD i 0)
def OpenR (ws : Wk) (s : Wa) (want i d : Int) (w : World) (e : Ending) (w' : World) : Prop := ∃ a r : Int, e = .returned (.tuple #[.int .i64 a, .int .i64 r]) ∧ (d ≠ 0 → a = 0 ∧ r = d) ∧ (d = 0 → ∀ p, (allP ws)[i.toNat]? = some p → LowIs (p.o.ps.length - 1) (openP ws s want i.toNat) a r) ∧ Below w.heap.size w w'
/-- What Open and Send keep besides works and water: what is wanted, the place. -/
structure OpK (w : World) (g : Nat) (want : Int) (i pc pn : Nat) (W : World) : Prop where
 wt : W.cell? ⟨w.heap.size + 1 + 1, 0, none⟩ = some (.int .i64 want)
 pa : W.cell? ⟨g, 0, none⟩ = some (.int .i64 i)
 pc : W.cell? ⟨g, 1, none⟩ = some (.int .i64 pc)
 pn : W.cell? ⟨g, 2, none⟩ = some (.int .i64 pn)
theorem OpK.grown {w W W' : World} {g : Nat} {want : Int} {i pc pn : Nat} {bs : List Nat} (h : OpK w g want i pc pn W) (hg : GrownL bs W W') (h1 : w.heap.size + 1 + 1 ∉ bs) (h2 : g ∉ bs) : OpK w g want i pc pn W' := ⟨hg.cell h.wt h1, hg.cell h.pa h2, hg.cell h.pc h2, hg.cell h.pn h2⟩
theorem WW.grown {w W W' : World} {v a b c d : Value} {bs : List Nat} (h : WW w v a b c d W) (hg : GrownL bs W W') (h1 : w.heap.size ∉ bs) (h2 : w.heap.size + 1 ∉ bs) (h3 : ∀ k ∈ bs, w.heap.size ≤ k) : WW w v a b c d W' := ⟨hg.cell h.wk h1, hg.cell h.r h2, hg.cell h.b h2, hg.cell h.k h2, hg.cell h.l h2, h.bel.trans (hg.below h3 h.bel.size)⟩
/-- The outlet of a place, in memory. -/
theorem RK.outlet {B : Nat} {A : Option Addr} {c : Nat} {ws : Wk} {w : World} (h : RK B (.slice A ws.length c) ws w) {i : Nat} {p : Pl} (hp : (allP ws)[i]? = some p) : ∃ b o b1 o1 n1 c1, A = some ⟨b, o, none⟩ ∧ b < B ∧ b1 < B ∧ p.c < ws.length ∧ p.n < n1 ∧ w.cell? ⟨b, o + p.c, none⟩ = some (.slice (some ⟨b1, o1, none⟩) n1 c1) ∧
  w.cell? ⟨b1, o1 + p.n * 7, none⟩ = some (.int .i64 p.o.id) ∧ w.cell? ⟨b1, o1 + p.n * 7 + 1, none⟩ = some (.int .i64 p.o.into) ∧ w.cell? ⟨b1, o1 + p.n * 7 + 2, none⟩ = some p.o.pv ∧ w.cell? ⟨b1, o1 + p.n * 7 + 3, none⟩ = some (.int .i64 p.o.k0) ∧ w.cell? ⟨b1, o1 + p.n * 7 + 4, none⟩ = some (.int .i64 p.o.k1) ∧ w.cell? ⟨b1, o1 + p.n * 7 + 5, none⟩ = some (.int .i64 p.o.s0) ∧ w.cell? ⟨b1, o1 + p.n * 7 + 6, none⟩ = some (.int .i64 p.o.s1) := by
 obtain ⟨-, os, h1, h2, -⟩ := allP_inv hp
 have hc := (List.getElem?_eq_some_iff.1 h1).1
 have hn := (List.getElem?_eq_some_iff.1 h2).1
 obtain ⟨A0, c0, e0, -, hx⟩ := h
 obtain ⟨rfl, rfl⟩ : A = A0 ∧ c = c0 := by simpa using e0
 obtain ⟨b, o, rfl, hb, hq⟩ := hx (by omega)
 obtain ⟨u, hu, A1, c1, rfl, -, hy⟩ := hq _ os h1
 obtain ⟨b1, o1, rfl, hb1, hz⟩ := hy (by omega)
 obtain ⟨a0, a1, a2, -, a3, a4, a5, a6⟩ := hz _ p.o h2
 exact ⟨b, o, b1, o1, _, c1, rfl, hb, hb1, hc, hn, hu, a0, a1, a2, a3, a4, a5, a6⟩

theorem set_self_of {l : List Int} {i : Nat} {x : Int} (h : l[i]? = some x) : l.set i x = l := by
 apply List.ext_getElem?
 intro j
 by_cases e : i = j
 ·subst e
  rw [List.getElem?_set_self (List.getElem?_eq_some_iff.1 h).1, h]
 ·rw [List.getElem?_set_ne e]

set_option maxHeartbeats 16000000 in
set_option maxRecDepth 1000000 in
theorem Open_any (v wv : Value) (ws : Wk) (s : Wa) (id want i d : Int) (w : World) (h : RK w.heap.size v ws w) (ht : total ws ≤ 100000) (hs : RWa w.heap.size wv s w) (hd : WishAt ws s id want i d) :
  Calls Try.prog 35 #[.agg #[v], wv, .int .i64 id, .int .i64 want] w (OpenR ws s want i d w) := by
 obtain ⟨A, c, rfl, -⟩ := (show ∃ A c, v = .slice A ws.length c ∧ True by obtain ⟨A, c, e, _⟩ := h; exact ⟨A, c, e, trivial⟩)
 obtain ⟨A1, c1, A2, c2, A3, c3, A4, c4, rfl⟩ := hs.form
 have C1 := Lib.hid fun W (hb : Below w.heap.size w W) => checkWish_any (.slice A ws.length c) _ ws s id want i d W (h.up hb.size hb) ht (hs.up hb.size hb) hd
 have C2 := Lib.hid fun W (hb : Below w.heap.size w W) => find_any (.slice A ws.length c) ws id W (h.up hb.size hb) ht
 have C4 := Lib.hid fun (hl : s.boards.length ≤ 100000) W (hb : Below w.heap.size w W) => cloneI_any (.slice A2 s.boards.length c2) s.boards W (hs.parts.2.1.up hb.size hb) hl
 have HD := Lib.hid hd
 have H := Lib.hid h
 have HS := Lib.hid hs
 clear h hs hd
 go_enter Try.func35, Try.ntmps35
 go_wp2_with fail
 refine (C1.out _ ?b).mono ?_
 case b => exact (((Below.refl _ _).alloc (Nat.le_refl _) _).alloc (by simp) _).alloc (by simp; omega) _
 rintro e w1 ⟨rfl, bb1⟩
 have S1 : Hid (WW w (.slice A ws.length c) (.slice A1 s.river.length c1) (.slice A2 s.boards.length c2) (.slice A3 s.leaks.length c3) (.slice A4 s.losses.length c4) w1) := Lib.hid (WW.below ⟨by simp [go_sem], by simp [go_sem], by simp [go_sem], by simp [go_sem], by simp [go_sem], (((Below.refl _ _).alloc (Nat.le_refl _) _).alloc (by simp) _).alloc (by simp; omega) _⟩ bb1)
 have WT1 : Hid (w1.cell? ⟨w.heap.size + 1 + 1, 0, none⟩ = some (.int .i64 want) ∧ (∀ k : Nat, w1.frozen? ⟨w.heap.size + 1, k, none⟩ = false)) := Lib.hid ⟨BelS.c bb1 (by simp [go_sem]), fun k => (bb1.frozen (p := ⟨w.heap.size + 1, k, none⟩) (by simp)).trans (by simp [go_sem])⟩
 clear bb1
 by_cases hd0 : d = 0
 rotate_left
 ·have HD0 := Lib.hid hd0
  go_wp2_with fail
  refine bodyPost_ret (results_tmp2 rfl _ _ _) rfl ?_
  exact ⟨0, d, rfl, fun _ => ⟨rfl, rfl⟩, fun h => absurd h HD0.out, S1.out.bel⟩
 subst hd0
 obtain ⟨hw, ho, hwant, n, p, rfl, hf, hp⟩ := HD.out.ok
 have HK := Lib.hid (And.intro hw (And.intro ho (And.intro hf hp)))
 have x0 := S1.out.wk
 have x1 := WT1.out.1
 have hsz1 : w.heap.size + 3 ≤ w1.heap.size := World.block_lt_of_cell? _ _ x1
 clear hw ho hf hp hwant
 go_wp2_with fail
 refine (C2.out _ S1.out.bel).mono ?_
 rintro e w2 ⟨pa, pb, pc, pf, rfl, hfr, bb2⟩
 obtain ⟨rfl, rfl, rfl, rfl⟩ := HK.out.2.2.1.find HK.out.2.2.2 hfr
 have S2 := Lib.hid (S1.out.below bb2)
 have WT2 : Hid (w2.cell? ⟨w.heap.size + 1 + 1, 0, none⟩ = some (.int .i64 want) ∧ (∀ k : Nat, w2.frozen? ⟨w.heap.size + 1, k, none⟩ = false)) := Lib.hid ⟨BelS.c bb2 WT1.out.1, fun k => (bb2.frozen (p := ⟨w.heap.size + 1, k, none⟩) (by show w.heap.size + 1 < _; omega)).trans (WT1.out.2 k)⟩
 have hsz2 : w.heap.size + 3 ≤ w2.heap.size := Nat.le_trans hsz1 bb2.size
 obtain ⟨W3, hW3⟩ : ∃ W3, w2.alloc (.cells #[.int .i64 n, .int .i64 p.c, .int .i64 p.n] 133) = W3 := ⟨_, rfl⟩
 have b3 : Below w2.heap.size w2 W3 := by rw [← hW3]; exact (Below.refl _ _).alloc (Nat.le_refl _) _
 have S3 := Lib.hid (S2.out.below b3)
 have K3 : Hid (OpK w w2.heap.size want n p.c p.n W3) := Lib.hid ⟨BelS.c b3 WT2.out.1, by rw [← hW3]; simp [go_sem], by rw [← hW3]; simp [go_sem], by rw [← hW3]; simp [go_sem]⟩
 have FZ3 := Lib.hid fun k => (b3.frozen (p := ⟨w.heap.size + 1, k, none⟩) (by show w.heap.size + 1 < _; omega)).trans (WT2.out.2 k)
 have HZ3 : Hid (w2.heap.size < W3.heap.size) := Lib.hid (by rw [← hW3]; simp)
 have HW3 := Lib.hid hW3
 have x3 : (w2.alloc (.cells #[.int .i64 n, .int .i64 p.c, .int .i64 p.n] 133)).cell? ⟨w.heap.size + 1, 1, none⟩ = some (.slice A2 s.boards.length c2) := by rw [hW3]; exact S3.out.b
 have HSZ := Lib.hid hsz2
 clear x0 x1 bb2 b3 hW3 hfr hsz1 hsz2 S1 S2 WT1 WT2
 go_wp2_with fail
 rw [HW3.out]
 have hbl : s.boards.length = total ws := HK.out.2.1.b
 have hlt : n < s.boards.length := by rw [hbl]; exact lt_total HK.out.2.2.2
 have htt := HK.out.1.tot
 have hbl60 : s.boards.length ≤ 60 := by omega
 clear hbl
 refine (C4.out (by omega) _ S3.out.bel).mono ?_
 rintro e w4 ⟨bv, rfl, ov, bb4⟩
 have S4 := Lib.hid (S3.out.below bb4)
 have K4 := Lib.hid (K3.out.grown (GrownL.of_below (bs := []) bb4) (by simp) (by simp))
 obtain ⟨Ab, gc, rfl, hAb⟩ := ov.form
 obtain ⟨gb, rfl⟩ := hAb (by omega)
 have OV := Lib.hid ov
 have hgb := (ov.lt gb rfl)
 have HGB := Lib.hid hgb
 have x4 := S4.out.b
 have f4 := (bb4.frozen (p := ⟨w.heap.size + 1, 1, none⟩) (World.block_lt_of_cell? _ _ S3.out.b)).trans (FZ3.out 1)
 obtain ⟨W5, hW5⟩ : ∃ W5, w4.setCell ⟨w.heap.size + 1, 1, none⟩ (.slice (some ⟨gb, 0, none⟩) s.boards.length gc) = W5 := ⟨_, rfl⟩
 have g5 : GrownL [w.heap.size + 1] w4 W5 := by rw [← hW5]; exact GrownL.set _ _ _ (by simp)
 have hz := HSZ.out
 have hz3 := HZ3.out
 have S5 : Hid (WW w (.slice A ws.length c) (.slice A1 s.river.length c1) (.slice (some ⟨gb, 0, none⟩) s.boards.length gc) (.slice A3 s.leaks.length c3) (.slice A4 s.losses.length c4) W5) := Lib.hid (by
  have nn : ∀ j, j ≠ 1 → ∀ u, w4.cell? ⟨w.heap.size + 1, j, none⟩ = some u → W5.cell? ⟨w.heap.size + 1, j, none⟩ = some u := fun j hj u hu => by
   rw [← hW5, World.cell?_setCell_other _ ⟨w.heap.size + 1, 1, none⟩ ⟨w.heap.size + 1, j, none⟩ _ (by simp <;> omega)]; exact hu
  exact ⟨g5.cell S4.out.wk (by simp), nn 0 (by decide) _ S4.out.r, by rw [← hW5]; exact World.cell?_setCell_same' _ _ _ (by rw [x4]; rfl), nn 2 (by decide) _ S4.out.k, nn 3 (by decide) _ S4.out.l, S4.out.bel.trans (g5.below (by simp) S4.out.bel.size)⟩)
 have K5 := Lib.hid (K4.out.grown g5 (by simp) (by simp; omega))
 have OV5 := Lib.hid (OV.out.grown g5 (fun b hb hm => by cases hb; simp at hm; omega))
 have HW5 := Lib.hid hW5
 obtain ⟨b, o, b1, o1, n1, k1, rfl, hbB, hb1, hpc, hpn, d0, e0, e1, e2, e3, e4, e5, e6⟩ := H.out.outlet HK.out.2.2.2
 have HBB := Lib.hid (And.intro hbB hb1)
 have DD := Lib.hid (And.intro d0 (And.intro e0 (And.intro e1 (And.intro e2 (And.intro e3 (And.intro e4 (And.intro e5 e6)))))))
 have hpl := (HK.out.1.ou HK.out.2.2.2).pl
 have hpu := (HK.out.1.ou HK.out.2.2.2).pu
 have HPL := Lib.hid (And.intro hpl hpu)
 obtain ⟨m, hm⟩ : ∃ m : Nat, p.o.ps.length - 1 = m := ⟨_, rfl⟩
 have HM := Lib.hid hm
 have CB := Lib.hid fun W => boards_any p.o W (by omega)
 rw [show (p.o.ps.length : Int) - 1 = (m : Int) by omega] at CB
 clear bb4 ov hAb hgb hW5 g5 hz hz3 x3 d0 e0 e1 e2 e3 e4 e5 e6 hbB hb1 hpl hpu hm S3 S4 K3 K4 OV C4
 go_upto_region 6 with fail
 rw [HW5.out]
 obtain ⟨Wd, hWd⟩ : ∃ Wd, W5.drew = Wd := ⟨_, rfl⟩
 have bD : Below W5.heap.size W5 Wd := by rw [← hWd]; exact (Below.refl _ _).drew
 have SD := Lib.hid (S5.out.below bD)
 have KD := Lib.hid (K5.out.grown (GrownL.of_below (bs := []) bD) (by simp) (by simp))
 have OD := Lib.hid (OV5.out.below bD)
 obtain ⟨d0, e0, e1, e2, e3, e4, e5, e6⟩ := DD.out
 have hbw := SD.out.bel
 have k0 := SD.out.wk
 have k1 := KD.out.pc
 have k2 := KD.out.pn
 have k3 := (hbw.cell (p := ⟨b, o + p.c, none⟩) HBB.out.1).trans d0
 have j0 := (hbw.cell (p := ⟨b1, _, none⟩) HBB.out.2).trans e0
 have j1 := (hbw.cell (p := ⟨b1, _, none⟩) HBB.out.2).trans e1
 have j2 := (hbw.cell (p := ⟨b1, _, none⟩) HBB.out.2).trans e2
 have j3 := (hbw.cell (p := ⟨b1, _, none⟩) HBB.out.2).trans e3
 have j4 := (hbw.cell (p := ⟨b1, _, none⟩) HBB.out.2).trans e4
 have j5 := (hbw.cell (p := ⟨b1, _, none⟩) HBB.out.2).trans e5
 have j6 := (hbw.cell (p := ⟨b1, _, none⟩) HBB.out.2).trans e6
 have hgbw := HGB.out.1
 have hzw := HZ3.out
 have hzz := HSZ.out
 have NB : Hid (∀ k, k < w2.heap.size + 1 → k ∉ [gb]) := Lib.hid fun k hk hm => by rw [List.mem_singleton] at hm; omega
 have HWd := Lib.hid hWd
 have hp0 : (p.c : Int) < (ws.length : Int) := by omega
 have hp1 : (0 : Int) ≤ (p.c : Int) := by omega
 have hp2 : (p.n : Int) < (n1 : Int) := by omega
 have hp3 : (0 : Int) ≤ (p.n : Int) := by omega
 have HLT := Lib.hid hlt
 clear hWd bD d0 e0 e1 e2 e3 e4 e5 e6 hbw
 obtain ⟨x0, hx0⟩ : ∃ x, s.boards[n]? = some x := ⟨_, List.getElem?_eq_getElem hlt⟩
 have HST : Hid (OwnG encI 1 3 W3.heap.size (.slice (some ⟨gb, 0, none⟩) s.boards.length gc) (s.boards.set n x0) Wd) := Lib.hid (by rw [set_self_of hx0]; exact OD.out)
 clear hx0 hlt
 have ost := HST.out
 have HCL : Hid (∀ (k : Nat) W, k ≤ m → GrownL [gb] Wd W → ∀ x, OwnG encI 1 3 W3.heap.size (.slice (some ⟨gb, 0, none⟩) s.boards.length gc) (s.boards.set n x) W → Calls Try.prog 95 #[.int .i64 (k : Nat), .pointer (some ⟨w.heap.size + 1, 0, none⟩), .pointer (some ⟨w2.heap.size, 0, none⟩), .pointer (some ⟨w.heap.size, 0, none⟩), .pointer (some ⟨w.heap.size + 1 + 1, 0, none⟩)] W fun e w' => e = .returned (.bool (openP ws s want n k)) ∧ GrownL [gb] W w' ∧ OwnG encI 1 3 W3.heap.size (.slice (some ⟨gb, 0, none⟩) s.boards.length gc) (s.boards.set n k) w') := Lib.hid fun k W hk hg x hx => by
  have SW := SD.out.grown hg (NB.out _ (by omega)) (NB.out _ (by omega)) (by simp; omega)
  have KW := KD.out.grown hg (NB.out _ (by omega)) (NB.out _ (by omega))
  exact open1_any (w.heap.size + 1) w2.heap.size w.heap.size (w.heap.size + 1 + 1) gb w W _ c ws A1 (some ⟨gb, 0, none⟩) A3 A4 c1 gc c3 c4 gc W3.heap.size s n k x want H.out SW.bel HS.out.parts.1 HS.out.parts.2.2.1 HS.out.parts.2.2.2 HK.out.1 (setB_ok HK.out.2.1 HK.out.2.2.2 (by omega) (by have := HPL.out; have := HM.out; omega)) (lt_total HK.out.2.2.2) HLT.out (by omega) SW.r SW.b SW.k SW.l KW.pa SW.wk KW.wt hx (by omega) (by omega) (by omega) (by omega)
 refine wp_region_T 17 (S := GrownL [gb] Wd) (by kernel_rfl) (by rw [HWd.out]; exact GrownL.refl _ _) (fun J0 => ?_)
 rw [HWd.out] at J0 ⊢
 refine tt 0 31 J0 ?_
 try simp only [aS]
 have KK1 := Lib.hid fun (w_ : World) (hSw : GrownL _ _ w_) => And.intro (hSw.cell k0 (NB.out _ (by show w.heap.size < _; have := HSZ.out; have := HBB.out; omega))) (And.intro (hSw.cell k1 (NB.out _ (by show w2.heap.size < _; have := HSZ.out; have := HBB.out; omega))) (And.intro (hSw.cell k2 (NB.out _ (by show w2.heap.size < _; have := HSZ.out; have := HBB.out; omega))) (And.intro (hSw.cell k3 (NB.out _ (by show b < _; have := HSZ.out; have := HBB.out; omega))) (And.intro (hSw.cell j0 (NB.out _ (by show b1 < _; have := HSZ.out; have := HBB.out; omega))) (And.intro (hSw.cell j1 (NB.out _ (by show b1 < _; have := HSZ.out; have := HBB.out; omega))) (And.intro (hSw.cell j2 (NB.out _ (by show b1 < _; have := HSZ.out; have := HBB.out; omega))) (And.intro (hSw.cell j3 (NB.out _ (by show b1 < _; have := HSZ.out; have := HBB.out; omega))) (And.intro (hSw.cell j4 (NB.out _ (by show b1 < _; have := HSZ.out; have := HBB.out; omega))) (And.intro (hSw.cell j5 (NB.out _ (by show b1 < _; have := HSZ.out; have := HBB.out; omega))) (hSw.cell j6 (NB.out _ (by show b1 < _; have := HSZ.out; have := HBB.out; omega))))))))))))
 refine tq KK1 1 32 J0 ?_
 try simp only [aS]
 refine tt 2 33 J0 ?_
 try simp only [aS]
 refine tq KK1 3 34 J0 ?_
 try simp only [aS]
 refine tq KK1 4 35 J0 ?_
 try simp only [aS]
 refine tt 5 36 J0 ?_
 try simp only [aS]
 refine tq KK1 6 37 J0 ?_
 try simp only [aS]
 refine tt 7 38 J0 ?_
 try simp only [aS]
 refine tq KK1 8 39 J0 ?_
 try simp only [aS]
 refine tq KK1 9 40 J0 ?_
 try simp only [aS]
 refine tq KK1 10 41 J0 ?_
 try simp only [aS]
 refine twoT (i := 11) (j := 12) (by kernel_rfl) rfl rfl (fun K hK => ?_) (fun K hK => ?_)
 ·go_simp
  refine (CB.out _).mono ?_
  rintro e wq1 ⟨rfl, bq1⟩
  have J1 := J0.trans (GrownL.of_below (bs := [gb]) bq1)
  have ost := ost.below bq1
  clear bq1
  refine hK.out _ _ J1 ?_
  clear hK K
  try simp only [aS]
  refine oneT (i := 12) (by kernel_rfl) rfl (fun K hK => ?_)
  go_simp
  refine hK.out _ _ J1 ?_
  clear hK K
  try simp only [aS]
  refine oneT (i := 13) (by kernel_rfl) rfl (fun K hK => ?_)
  go_simp
  refine (lowestOpen_any m gb (w.heap.size + 1) w2.heap.size w.heap.size (w.heap.size + 1 + 1) (openP ws s want n) (fun W => ∃ x, OwnG encI 1 3 W3.heap.size (.slice (some ⟨gb, 0, none⟩) s.boards.length gc) (s.boards.set n x) W) _ (by have := HPL.out; have := HM.out; omega) (Nat.lt_of_lt_of_le (OD.out.lt gb rfl).2 J1.size) ⟨x0, ost⟩ (fun _ _ ⟨x, h⟩ hb => ⟨x, h.below hb⟩) (fun k W hk hg ⟨x, hx⟩ => (HCL.out k W hk (J1.trans hg) x hx).mono fun e w' ⟨h1, h2, h3⟩ => ⟨h1, h2, _, h3⟩)).mono ?_
  rintro e wq2 ⟨q, hq1, hq2, hq3, rfl, hgr, -⟩
  have J2 := J1.trans hgr
  have HQ := Lib.hid (And.intro hq1 (And.intro hq2 hq3))
  obtain ⟨ra, hra⟩ : ∃ ra, (if m < q then (0 : Int) else (q : Int)) = ra := ⟨_, rfl⟩
  obtain ⟨rr, hrr⟩ : ∃ rr, (if m < q then (5 : Int) else 0) = rr := ⟨_, rfl⟩
  have HRA := Lib.hid (And.intro hra hrr)
  rw [hra, hrr]
  clear hq1 hq2 hq3 hgr hra hrr
  refine hK.out _ _ J2 ?_
  clear hK K
  try simp only [aS]
  refine tt 14 45 J2 ?_
  try simp only [aS]
  refine tt 15 46 J2 ?_
  try simp only [aS]
  refine tt 16 8 J2 ?_
  try simp only [aS]
  refine lastT (by kernel_rfl) rfl (fun K hK => ?_)
  go_simp
  refine hK.out _ _ ?_
  clear hK K
  try simp only [aS]
  refine doneT (by kernel_rfl) ?_ _
  have GF := Lib.hid J2
  clear ost J0 J1 J2 k0 k1 k2 k3 j0 j1 j2 j3 j4 j5 j6
  go_wp2_with fail
  refine bodyPost_ret (results_tmp2 rfl _ _ _) rfl ?_
  refine ⟨ra, rr, rfl, fun h => absurd rfl h, fun _ p' hp' => ?_, SD.out.bel.trans (GF.out.below (by have := HGB.out; have := HZ3.out; have := HSZ.out; simp; omega) SD.out.bel.size)⟩
  rw [Int.toNat_natCast, HK.out.2.2.2] at hp'
  cases hp'
  rw [Int.toNat_natCast, HM.out]
  exact ⟨q, HQ.out.1, HQ.out.2.1, HQ.out.2.2, HRA.out.1.symm, HRA.out.2.symm⟩
 ·go_simp
  refine hK.out _ _ J0 ?_
  clear hK K
  try simp only [aS]
  refine oneT (i := 11) (by kernel_rfl) rfl (fun K hK => ?_)
  go_simp
  refine (CB.out _).mono ?_
  rintro e wq1 ⟨rfl, bq1⟩
  have J1 := J0.trans (GrownL.of_below (bs := [gb]) bq1)
  have ost := ost.below bq1
  clear bq1
  refine hK.out _ _ J1 ?_
  clear hK K
  try simp only [aS]
  refine oneT (i := 13) (by kernel_rfl) rfl (fun K hK => ?_)
  go_simp
  refine (lowestOpen_any m gb (w.heap.size + 1) w2.heap.size w.heap.size (w.heap.size + 1 + 1) (openP ws s want n) (fun W => ∃ x, OwnG encI 1 3 W3.heap.size (.slice (some ⟨gb, 0, none⟩) s.boards.length gc) (s.boards.set n x) W) _ (by have := HPL.out; have := HM.out; omega) (Nat.lt_of_lt_of_le (OD.out.lt gb rfl).2 J1.size) ⟨x0, ost⟩ (fun _ _ ⟨x, h⟩ hb => ⟨x, h.below hb⟩) (fun k W hk hg ⟨x, hx⟩ => (HCL.out k W hk (J1.trans hg) x hx).mono fun e w' ⟨h1, h2, h3⟩ => ⟨h1, h2, _, h3⟩)).mono ?_
  rintro e wq2 ⟨q, hq1, hq2, hq3, rfl, hgr, -⟩
  have J2 := J1.trans hgr
  have HQ := Lib.hid (And.intro hq1 (And.intro hq2 hq3))
  obtain ⟨ra, hra⟩ : ∃ ra, (if m < q then (0 : Int) else (q : Int)) = ra := ⟨_, rfl⟩
  obtain ⟨rr, hrr⟩ : ∃ rr, (if m < q then (5 : Int) else 0) = rr := ⟨_, rfl⟩
  have HRA := Lib.hid (And.intro hra hrr)
  rw [hra, hrr]
  clear hq1 hq2 hq3 hgr hra hrr
  refine hK.out _ _ J2 ?_
  clear hK K
  try simp only [aS]
  refine tt 14 45 J2 ?_
  try simp only [aS]
  refine tt 15 46 J2 ?_
  try simp only [aS]
  refine tt 16 8 J2 ?_
  try simp only [aS]
  refine lastT (by kernel_rfl) rfl (fun K hK => ?_)
  go_simp
  refine hK.out _ _ ?_
  clear hK K
  try simp only [aS]
  refine doneT (by kernel_rfl) ?_ _
  have GF := Lib.hid J2
  clear ost J0 J1 J2 k0 k1 k2 k3 j0 j1 j2 j3 j4 j5 j6
  go_wp2_with fail
  refine bodyPost_ret (results_tmp2 rfl _ _ _) rfl ?_
  refine ⟨ra, rr, rfl, fun h => absurd rfl h, fun _ p' hp' => ?_, SD.out.bel.trans (GF.out.below (by have := HGB.out; have := HZ3.out; have := HSZ.out; simp; omega) SD.out.bel.size)⟩
  rw [Int.toNat_natCast, HK.out.2.2.2] at hp'
  cases hp'
  rw [Int.toNat_natCast, HM.out]
  exact ⟨q, HQ.out.1, HQ.out.2.1, HQ.out.2.2, HRA.out.1.symm, HRA.out.2.symm⟩
end Go.Proofs.Ytkoacclbempmdaa

/- Plain mathematics of signs: a path has one outlet on each of its carriers. -/
namespace Go.Proofs.Ytkoacclbempmdaa
open Go.RowKit

theorem endS_foldl {ids : List Int} {c v : Nat} : ∀ (s : List Pl) (a : Nat), (∀ p ∈ s, p.o.id ∈ ids → p.c = c → p.n + 1 = v) →
  s.foldl (fun a p => if p.o.id ∈ ids ∧ p.c = c then p.n + 1 else a) a = if (∃ p ∈ s, p.o.id ∈ ids ∧ p.c = c) then v else a
 | [], a, _ => by simp
 | p :: s, a, h => by
  rw [List.foldl_cons, endS_foldl s _ (fun q hq => h q (List.mem_cons_of_mem _ hq))]
  by_cases hp : p.o.id ∈ ids ∧ p.c = c
  ·have e := h p (List.mem_cons_self ..) hp.1 hp.2
   rw [if_pos hp, if_pos (⟨p, List.mem_cons_self .., hp⟩ : ∃ q ∈ p :: s, q.o.id ∈ ids ∧ q.c = c)]
   split
   ·rfl
   ·exact e
  ·rw [if_neg hp]
   by_cases hs : ∃ q ∈ s, q.o.id ∈ ids ∧ q.c = c
   ·obtain ⟨q, hq, hc⟩ := hs
    rw [if_pos ⟨q, hq, hc⟩, if_pos ⟨q, List.mem_cons_of_mem _ hq, hc⟩]
   ·rw [if_neg hs, if_neg]
    rintro ⟨q, hq, hc⟩
    rcases List.mem_cons.1 hq with rfl | hq
    ·exact hp hc
    ·exact hs ⟨q, hq, hc⟩
/-- Carriers along a path. -/
theorem feeds_lt {ws : Wk} (hw : WOk ws) {c j : Nat} {q : Pl} (hq : (allP ws)[j]? = some q) (hf : FstIs (fun o : Ou => o.into) (outs ws) c j) : q.c < c ∧ q.o.into = c := by
 rcases hf with ⟨k, o, ho, he, -, hk⟩ | ⟨-, h⟩
 ·obtain rfl : j = k := by omega
  have := (outs_get hq).1
  rw [ho] at this
  cases this
  exact ⟨(hw.into_lt hq he).1, he⟩
 ·omega
theorem PathIs.car {ws : Wk} (hw : WOk ws) {i : Nat} {l : List Nat} (h : PathIs ws i l) : ∀ p, (allP ws)[i]? = some p → ∀ k ∈ l, ∀ q, (allP ws)[k]? = some q → q.c ≤ p.c ∧ (q.c = p.c → k = i) := by
 induction h with
 | head hp hf =>
  intro p hp' k hk q hq
  rw [List.mem_singleton] at hk
  subst hk
  rw [hp'] at hq
  cases hq
  exact ⟨Nat.le_refl _, fun _ => rfl⟩
 | @step i j p0 l hp hf h ih =>
  intro p hp' k hk q hq
  rw [hp] at hp'
  cases hp'
  rcases List.mem_append.1 hk with hk | hk
  ·obtain ⟨pj, hpj⟩ := at_total h.lt
   have := ih pj hpj k hk q hq
   have := (feeds_lt hw hpj hf).1
   exact ⟨by omega, fun e => by omega⟩
  ·rw [List.mem_singleton] at hk
   subst hk
   rw [hp] at hq
   cases hq
   exact ⟨Nat.le_refl _, fun _ => rfl⟩
theorem PathIs.one {ws : Wk} (hw : WOk ws) {i : Nat} {l : List Nat} (h : PathIs ws i l) : ∀ k ∈ l, ∀ k' ∈ l, ∀ q q', (allP ws)[k]? = some q → (allP ws)[k']? = some q' → q.c = q'.c → k = k' := by
 induction h with
 | head hp hf =>
  intro k hk k' hk' q q' hq hq' e
  rw [List.mem_singleton] at hk hk'
  rw [hk, hk']
 | @step i j p0 l hp hf h ih =>
  intro k hk k' hk' q q' hq hq' e
  obtain ⟨pj, hpj⟩ := at_total h.lt
  have hlt := (feeds_lt hw hpj hf).1
  rcases List.mem_append.1 hk with m1 | m1 <;> rcases List.mem_append.1 hk' with m2 | m2
  ·exact ih k m1 k' m2 q q' hq hq' e
  ·have h1 := (h.car hw pj hpj k m1 q hq).1
   rw [List.mem_singleton] at m2
   rw [m2, hp] at hq'
   cases hq'
   omega
  ·have h1 := (h.car hw pj hpj k' m2 q' hq').1
   rw [List.mem_singleton] at m1
   rw [m1, hp] at hq
   cases hq
   omega
  ·rw [List.mem_singleton] at m1 m2
   rw [m1, m2]
theorem PathIs.top {ws : Wk} {i : Nat} {l : List Nat} (h : PathIs ws i l) : ∃ k r q, l = k :: r ∧ (allP ws)[k]? = some q ∧ FstIs (fun o : Ou => o.into) (outs ws) q.c (-1) := by
 induction h with
 | head hp hf => exact ⟨_, [], _, rfl, hp, hf⟩
 | step hp hf h ih =>
  obtain ⟨k, r, q, rfl, hq, hfq⟩ := ih
  exact ⟨k, _, q, rfl, hq, hfq⟩
theorem PathIs.self_mem {ws : Wk} {i : Nat} {l : List Nat} (h : PathIs ws i l) : i ∈ l := by
 cases h with
 | head => simp
 | step => simp
/-- Behind the first one of a path, all carriers are fed. -/
theorem PathIs.fed {ws : Wk} (_hw : WOk ws) {i : Nat} {l : List Nat} (h : PathIs ws i l) : ∀ k ∈ l, ∀ q, (allP ws)[k]? = some q → FstIs (fun o : Ou => o.into) (outs ws) q.c (-1) → l.head? = some k := by
 induction h with
 | head hp hf =>
  intro k hk q hq hfq
  rw [List.mem_singleton] at hk
  subst hk
  rfl
 | @step i j p0 l hp hf h ih =>
  intro k hk q hq hfq
  rcases List.mem_append.1 hk with hk | hk
  ·have := ih k hk q hq hfq
   cases l with
   | nil => cases hk
   | cons a r => simpa using this
  ·rw [List.mem_singleton] at hk
   subst hk
   rw [hp] at hq
   cases hq
   have := hfq.unique hf
   omega
theorem ids_path {ws : Wk} (hw : WOk ws) {i : Nat} {p : Pl} (hp : (allP ws)[i]? = some p) : byIdS ws (allP ws) p.o.id = (pathOf ws i).map (idAt ws) := by
 have := byIdS_at hw (lt_total hp) hp
 rwa [List.take_of_length_le (by rw [allP_len]; exact Nat.le_refl _)] at this
theorem idAt_at {ws : Wk} {k : Nat} {q : Pl} (hq : (allP ws)[k]? = some q) : idAt ws k = q.o.id := idAt_eq (outs_get hq).1
theorem id_inj {ws : Wk} (hw : WOk ws) {j k : Nat} {p q : Pl} (hp : (allP ws)[j]? = some p) (hq : (allP ws)[k]? = some q) (e : p.o.id = q.o.id) : j = k := by
 rcases Nat.lt_trichotomy j k with h | h | h
 ·exact absurd e ((hw.one j k p q hp hq h).1)
 ·exact h
 ·exact absurd e.symm ((hw.one k j q p hq hp h).1)
theorem mem_path {ws : Wk} (hw : WOk ws) {i k : Nat} {p q : Pl} (hp : (allP ws)[i]? = some p) (hq : (allP ws)[k]? = some q) : q.o.id ∈ byIdS ws (allP ws) p.o.id ↔ k ∈ pathOf ws i := by
 rw [ids_path hw hp, List.mem_map]
 constructor
 ·rintro ⟨m, hm, e⟩
  obtain ⟨r, hr⟩ := at_total ((pathOf_is hw (lt_total hp)).mem m hm)
  rw [idAt_at hr] at e
  rwa [← id_inj hw hr hq e]
 ·intro h
  exact ⟨k, h, idAt_at hq⟩
theorem mem_allP {ws : Wk} {q : Pl} (h : q ∈ allP ws) : ∃ k : Nat, (allP ws)[k]? = some q := List.mem_iff_getElem?.1 h
theorem endE_at {ws : Wk} (hw : WOk ws) {i k : Nat} {p q : Pl} (hp : (allP ws)[i]? = some p) (hk : k ∈ pathOf ws i) (hq : (allP ws)[k]? = some q) : endE ws p.o.id q.c = q.n + 1 := by
 unfold endE endS
 rw [endS_foldl (v := q.n + 1) (allP ws) 0 (fun r hr hm hc => ?_), if_pos]
 ·exact ⟨q, List.mem_of_getElem? hq, (mem_path hw hp hq).2 hk, rfl⟩
 ·obtain ⟨m, hm'⟩ := mem_allP hr
  have := (pathOf_is hw (lt_total hp)).one hw m ((mem_path hw hp hm').1 hm) k hk r q hm' hq hc
  subst this
  rw [hm'] at hq
  cases hq
  rfl
theorem endE_none {ws : Wk} (hw : WOk ws) {i c : Nat} {p : Pl} (hp : (allP ws)[i]? = some p) (h : ∀ k ∈ pathOf ws i, ∀ q, (allP ws)[k]? = some q → q.c ≠ c) : endE ws p.o.id c = 0 := by
 have no : ∀ r ∈ allP ws, r.o.id ∈ byIdS ws (allP ws) p.o.id → r.c = c → False := fun r hr hm hc => by
  obtain ⟨m, hm'⟩ := mem_allP hr
  exact h m ((mem_path hw hp hm').1 hm) r hm' hc
 unfold endE endS
 rw [endS_foldl (v := 0) (allP ws) 0 (fun r hr hm hc => (no r hr hm hc).elim), if_neg]
 rintro ⟨r, hr, hm, hc⟩
 exact no r hr hm hc
theorem head_of_fst {ws : Wk} {k : Nat} {q : Pl} (hq : (allP ws)[k]? = some q) (hf : FstIs (fun o : Ou => o.into) (outs ws) q.c (-1)) : q.c ∈ headsN ws := by
 obtain ⟨-, os, h1, -, -⟩ := allP_inv hq
 unfold headsN
 rw [List.mem_filter, List.mem_range]
 refine ⟨(List.getElem?_eq_some_iff.1 h1).1, ?_⟩
 rcases hf with ⟨m, o, ho, he, -, h⟩ | ⟨hn, -⟩
 ·omega
 ·unfold fedB
  rw [Bool.not_eq_true', List.any_eq_false]
  intro p hp
  obtain ⟨m, hm⟩ := mem_allP hp
  have := hn m p.o (outs_get hm).1
  simpa using this
theorem idxI_first {l : List Int} {x : Int} (h : x ∈ l) : ∃ j : Nat, idxI l x = j ∧ l[j]? = some x := by
 have h0 := (idxI_mem l x).2 h
 unfold idxI at h0 ⊢
 cases e : l.idxOf? x with
 | none => rw [e] at h0; simp at h0
 | some k =>
  obtain ⟨h1, h2, -⟩ := List.idxOf?_eq_some_iff.1 e
  exact ⟨k, rfl, by rw [List.getElem?_eq_getElem h1]; simpa using h2⟩
/-- The path of an outlet begins at a head, whose sign is 1. -/
theorem head_sign {ws : Wk} (hw : WOk ws) {i : Nat} {p : Pl} (hp : (allP ws)[i]? = some p) : ∃ j : Nat, idxI (sigH ws p.o.id) 1 = j ∧ j < (headsN ws).length := by
 obtain ⟨k, r, q, hl, hq, hf⟩ := (pathOf_is hw (lt_total hp)).top
 have hm := head_of_fst hq hf
 have hk : k ∈ pathOf ws i := by rw [hl]; simp
 have he := endE_at hw hp hk hq
 have h1 : (1 : Int) ∈ sigH ws p.o.id := by
  unfold sigH
  rw [List.mem_map]
  refine ⟨q.c, hm, ?_⟩
  unfold sgH
  rw [he]
  omega
 obtain ⟨j, hj, hj2⟩ := idxI_first h1
 exact ⟨j, hj, by have := (List.getElem?_eq_some_iff.1 hj2).1; simpa [sigH] using this⟩
end Go.Proofs.Ytkoacclbempmdaa
