/- Contract of Send. -/
import Derived.Test.YtkoacclbempmdaaGZE
namespace Go.Proofs.Ytkoacclbempmdaa
open Go.RowKit

theorem sg_heads (A1 : Option Addr) (n1 c1 : Nat) (b c : Value) (w : World) : (Instr.field 138 (.agg #[.slice A1 n1 c1, b, c]) 0).run Try.prog w = .ok (.slice A1 n1 c1) w := by
 have hs : (sizeOf 25).run Try.prog w = .ok 1 w := by kernel_rfl
 unfold Instr.field
 simp [run_underlying Try.underlying138, asAgg, part, isAgg, hs]
noncomputable def headAt (ws : Wk) (id : Int) : Nat := (idxI (sigH ws id) 1).toNat
def sendP (ws : Wk) (s : Wa) (want : Int) (i j : Nat) (k : Nat) : Bool := decide (want ≤ (flowF ws (setR s j k)).thr.getD i 0)
def SendR (ws : Wk) (s : Wa) (id want i d : Int) (w : World) (e : Ending) (w' : World) : Prop := ∃ a r : Int, e = .returned (.tuple #[.int .i64 a, .int .i64 r]) ∧ (d ≠ 0 → a = 0 ∧ r = d) ∧ (d = 0 → LowIs 1048576 (sendP ws s want i.toNat (headAt ws id)) a r) ∧ Below w.heap.size w w'

set_option maxHeartbeats 16000000 in
set_option maxRecDepth 1000000 in
theorem Send_any (v wv : Value) (ws : Wk) (s : Wa) (id want i d : Int) (w : World) (h : RK w.heap.size v ws w) (ht : total ws ≤ 100000) (hs : RWa w.heap.size wv s w) (hd : WishAt ws s id want i d) (hid : (Lit.int .i64 id).wf = true) :
  Calls Try.prog 38 #[.agg #[v], wv, .int .i64 id, .int .i64 want] w (SendR ws s id want i d w) := by
 obtain ⟨A, c, rfl, -⟩ := (show ∃ A c, v = .slice A ws.length c ∧ True by obtain ⟨A, c, e, _⟩ := h; exact ⟨A, c, e, trivial⟩)
 obtain ⟨A1, c1, A2, c2, A3, c3, A4, c4, rfl⟩ := hs.form
 have C1 := Lib.hid fun W (hb : Below w.heap.size w W) => checkWish_any (.slice A ws.length c) _ ws s id want i d W (h.up hb.size hb) ht (hs.up hb.size hb) hd
 have C2 := Lib.hid fun W (hb : Below w.heap.size w W) => find_any (.slice A ws.length c) ws id W (h.up hb.size hb) ht
 have C4 := Lib.hid fun (hl : s.river.length ≤ 100000) W (hb : Below w.heap.size w W) => cloneI_any (.slice A1 s.river.length c1) s.river W (hs.parts.1.up hb.size hb) hl
 have C5 := Lib.hid fun (hw : WOk ws) W (hb : Below w.heap.size w W) => signsOf_any A c ws id W (h.up hb.size hb) hw hid
 have HD := Lib.hid hd
 have H := Lib.hid h
 have HS := Lib.hid hs
 clear h hs hd
 go_enter Try.func38, Try.ntmps38
 go_wp2_with fail
 refine (C1.out _ ?b).mono ?_
 case b => exact (((Below.refl _ _).alloc (Nat.le_refl _) _).alloc (by simp) _).alloc (by simp; omega) _
 rintro e w1 ⟨rfl, bb1⟩
 have S1 : Hid (WW w (.slice A ws.length c) (.slice A1 s.river.length c1) (.slice A2 s.boards.length c2) (.slice A3 s.leaks.length c3) (.slice A4 s.losses.length c4) w1) := Lib.hid (WW.below ⟨by simp [go_sem], by simp [go_sem], by simp [go_sem], by simp [go_sem], by simp [go_sem], (((Below.refl _ _).alloc (Nat.le_refl _) _).alloc (by simp) _).alloc (by simp; omega) _⟩ bb1)
 have WT1 : Hid (w1.cell? ⟨w.heap.size + 1 + 1, 0, none⟩ = some (.int .i64 want) ∧ (∀ k : Nat, w1.frozen? ⟨w.heap.size + 1, k, none⟩ = false)) := Lib.hid ⟨BelS.c bb1 (by simp [go_sem]), fun k => (bb1.frozen (p := ⟨w.heap.size + 1, k, none⟩) (by simp)).trans (by simp [go_sem])⟩
 clear bb1
 by_cases hd0 : d = 0
 rotate_left
 ·have HD0 := Lib.hid hd0
  go_wp2_with fail
  refine bodyPost_ret (results_tmp2 rfl _ _ _) rfl ?_
  exact ⟨0, d, rfl, fun _ => ⟨rfl, rfl⟩, fun h => absurd h HD0.out, S1.out.bel⟩
 subst hd0
 obtain ⟨hw, ho, hwant, n, p, rfl, hf, hp⟩ := HD.out.ok
 have HK := Lib.hid (And.intro hw (And.intro ho (And.intro hf hp)))
 have x0 := S1.out.wk
 have x1 := WT1.out.1
 have hsz1 : w.heap.size + 3 ≤ w1.heap.size := World.block_lt_of_cell? _ _ x1
 clear hw ho hf hp hwant
 go_wp2_with fail
 refine (C2.out _ S1.out.bel).mono ?_
 rintro e w2 ⟨pa, pb, pc, pf, rfl, hfr, bb2⟩
 obtain ⟨rfl, rfl, rfl, rfl⟩ := HK.out.2.2.1.find HK.out.2.2.2 hfr
 have S2 := Lib.hid (S1.out.below bb2)
 have WT2 : Hid (w2.cell? ⟨w.heap.size + 1 + 1, 0, none⟩ = some (.int .i64 want) ∧ (∀ k : Nat, w2.frozen? ⟨w.heap.size + 1, k, none⟩ = false)) := Lib.hid ⟨BelS.c bb2 WT1.out.1, fun k => (bb2.frozen (p := ⟨w.heap.size + 1, k, none⟩) (by show w.heap.size + 1 < _; omega)).trans (WT1.out.2 k)⟩
 have hsz2 : w.heap.size + 3 ≤ w2.heap.size := Nat.le_trans hsz1 bb2.size
 obtain ⟨W3, hW3⟩ : ∃ W3, w2.alloc (.cells #[.int .i64 n, .int .i64 p.c, .int .i64 p.n] 133) = W3 := ⟨_, rfl⟩
 have b3 : Below w2.heap.size w2 W3 := by rw [← hW3]; exact (Below.refl _ _).alloc (Nat.le_refl _) _
 have S3 := Lib.hid (S2.out.below b3)
 have K3 : Hid (OpK w w2.heap.size want n p.c p.n W3) := Lib.hid ⟨BelS.c b3 WT2.out.1, by rw [← hW3]; simp [go_sem], by rw [← hW3]; simp [go_sem], by rw [← hW3]; simp [go_sem]⟩
 have FZ3 := Lib.hid fun k => (b3.frozen (p := ⟨w.heap.size + 1, k, none⟩) (by show w.heap.size + 1 < _; omega)).trans (WT2.out.2 k)
 have HZ3 : Hid (w2.heap.size < W3.heap.size) := Lib.hid (by rw [← hW3]; simp)
 have HW3 := Lib.hid hW3
 obtain ⟨j, hj, hjl⟩ := head_sign HK.out.1 HK.out.2.2.2
 have hpid : p.o.id = id := by
  rcases HK.out.2.2.1 with ⟨k, o, ho, he, -, hk⟩ | ⟨-, h⟩
  ·obtain rfl : n = k := by omega
   have := (outs_get HK.out.2.2.2).1
   rw [ho] at this
   cases this
   exact he
  ·omega
 rw [hpid] at hj
 have HJ : Hid (idxI (sigH ws id) 1 = (j : Int) ∧ j < s.river.length ∧ s.river.length ≤ 16) := Lib.hid ⟨hj, by rw [HK.out.2.1.r]; exact hjl, by have := headsL_len HK.out.1; rw [HK.out.2.1.r]; simpa [headsL] using this⟩
 have x3 : (w2.alloc (.cells #[.int .i64 n, .int .i64 p.c, .int .i64 p.n] 133)).cell? ⟨w.heap.size, 0, none⟩ = some (.slice A ws.length c) := by rw [hW3]; exact S3.out.wk
 have HSZ := Lib.hid hsz2
 clear x0 x1 bb2 b3 hW3 hfr hsz1 hsz2 hpid hj hjl S1 S2 WT1 WT2
 go_wp2_with fail
 rw [HW3.out]
 refine (C5.out HK.out.1 _ S3.out.bel).mono ?_
 rintro e w4 ⟨v1, v2, v3, rfl, o1, o2, o3, bb4⟩
 have S4 := Lib.hid (S3.out.below bb4)
 have K4 := Lib.hid (K3.out.grown (GrownL.of_below (bs := []) bb4) (by simp) (by simp))
 have F4 := Lib.hid fun k => (bb4.frozen (p := ⟨w.heap.size + 1, k, none⟩) (show w.heap.size + 1 < _ from World.block_lt_of_cell? _ _ S3.out.r)).trans (FZ3.out k)
 obtain ⟨G1, g1, rfl, -⟩ := o1.form
 obtain ⟨G2, g2, rfl, -⟩ := o2.form
 obtain ⟨G3_, g3, rfl, -⟩ := o3.form
 have hsl : (sigH ws id).length ≤ 16 := by have := headsL_len HK.out.1; simpa [sigH, headsL] using this
 have CI := Lib.hid (indexI_any (.slice G1 (sigH ws id).length g1) (sigH ws id) 1 w4 (o1.rr EI (by omega)) (by omega))
 rw [HJ.out.1] at CI
 obtain ⟨m1, hm1⟩ : ∃ m, (sigH ws id).length = m := ⟨_, rfl⟩
 rw [hm1] at CI ⊢
 have HZ4 : Hid (w2.heap.size < w4.heap.size) := Lib.hid (by have := bb4.size; have := HZ3.out; omega)
 have sgf := sg_heads G1 m1 g1 (.slice G2 (sigO ws id).length g2) (.slice G3_ (sigR ws id).length g3) w4
 clear o1 o2 o3 bb4 hm1 hsl x3 C5
 go_wp2_with fail
 refine CI.out.mono ?_
 rintro e w5 ⟨rfl, bb5⟩
 have S5 := Lib.hid (S4.out.below bb5)
 have K5 := Lib.hid (K4.out.grown (GrownL.of_below (bs := []) bb5) (by simp) (by simp))
 have F5 := Lib.hid fun k => (bb5.frozen (p := ⟨w.heap.size + 1, k, none⟩) (show w.heap.size + 1 < _ from World.block_lt_of_cell? _ _ S4.out.r)).trans (F4.out k)
 have HZ5 : Hid (w2.heap.size < w5.heap.size) := Lib.hid (by have := bb5.size; have := HZ4.out; omega)
 obtain ⟨W6, hW6⟩ : ∃ W6, w5.alloc (.cells #[.int .i64 j] 3) = W6 := ⟨_, rfl⟩
 have b6 : Below w5.heap.size w5 W6 := by rw [← hW6]; exact (Below.refl _ _).alloc (Nat.le_refl _) _
 have S6 := Lib.hid (S5.out.below b6)
 have K6 := Lib.hid (K5.out.grown (GrownL.of_below (bs := []) b6) (by simp) (by simp))
 have F6 := Lib.hid fun k => (b6.frozen (p := ⟨w.heap.size + 1, k, none⟩) (show w.heap.size + 1 < _ from World.block_lt_of_cell? _ _ S5.out.r)).trans (F5.out k)
 have J6 : Hid (W6.cell? ⟨w5.heap.size, 0, none⟩ = some (.int .i64 j)) := Lib.hid (by rw [← hW6]; simp [go_sem])
 have HZ6 : Hid (w5.heap.size < W6.heap.size) := Lib.hid (by rw [← hW6]; simp)
 have HW6 := Lib.hid hW6
 have x6 : (w5.alloc (.cells #[.int .i64 j] 3)).cell? ⟨w.heap.size + 1, 0, none⟩ = some (.slice A1 s.river.length c1) := by rw [hW6]; exact S6.out.r
 clear bb5 b6 hW6 CI sgf
 go_wp2_with fail
 rw [HW6.out]
 have hjl := HJ.out.2.1
 have hrl := HJ.out.2.2
 refine (C4.out (by omega) _ S6.out.bel).mono ?_
 rintro e w7 ⟨bv, rfl, ov, bb7⟩
 have S7 := Lib.hid (S6.out.below bb7)
 have K7 := Lib.hid (K6.out.grown (GrownL.of_below (bs := []) bb7) (by simp) (by simp))
 have J7 := Lib.hid (BelS.c bb7 J6.out)
 obtain ⟨Ab, gc, rfl, hAb⟩ := ov.form
 obtain ⟨gb, rfl⟩ := hAb (by omega)
 have OV := Lib.hid ov
 have hgb := (ov.lt gb rfl)
 have HGB := Lib.hid hgb
 have x7 := S7.out.r
 have f7 := (bb7.frozen (p := ⟨w.heap.size + 1, 0, none⟩) (World.block_lt_of_cell? _ _ S6.out.r)).trans (F6.out 0)
 obtain ⟨W8, hW8⟩ : ∃ W8, w7.setCell ⟨w.heap.size + 1, 0, none⟩ (.slice (some ⟨gb, 0, none⟩) s.river.length gc) = W8 := ⟨_, rfl⟩
 have g8 : GrownL [w.heap.size + 1] w7 W8 := by rw [← hW8]; exact GrownL.set _ _ _ (by simp)
 have hz := HSZ.out
 have hz5 := HZ5.out
 have hz6 := HZ6.out
 have S8 : Hid (WW w (.slice A ws.length c) (.slice (some ⟨gb, 0, none⟩) s.river.length gc) (.slice A2 s.boards.length c2) (.slice A3 s.leaks.length c3) (.slice A4 s.losses.length c4) W8) := Lib.hid (by
  have nn : ∀ j, j ≠ 0 → ∀ u, w7.cell? ⟨w.heap.size + 1, j, none⟩ = some u → W8.cell? ⟨w.heap.size + 1, j, none⟩ = some u := fun j hj u hu => by
   rw [← hW8, World.cell?_setCell_other _ ⟨w.heap.size + 1, 0, none⟩ ⟨w.heap.size + 1, j, none⟩ _ (by simp <;> omega)]; exact hu
  exact ⟨g8.cell S7.out.wk (by simp), by rw [← hW8]; exact World.cell?_setCell_same' _ _ _ (by rw [x7]; rfl), nn 1 (by decide) _ S7.out.b, nn 2 (by decide) _ S7.out.k, nn 3 (by decide) _ S7.out.l, S7.out.bel.trans (g8.below (by simp) S7.out.bel.size)⟩)
 have K8 := Lib.hid (K7.out.grown g8 (by simp) (by simp; omega))
 have J8 := Lib.hid (g8.cell J7.out (by simp; omega))
 have OV8 := Lib.hid (OV.out.grown g8 (fun b hb hm => by cases hb; simp at hm; omega))
 have HW8 := Lib.hid hW8
 have HLT := Lib.hid hjl
 clear bb7 ov hAb hgb hW8 g8 hz hz5 hz6 x6 hjl hrl S3 S4 S5 S6 K3 K4 K5 K6 OV C4
 go_wp2_with fail
 rw [HW8.out]
 refine (flows_any _).mono ?_
 rintro e w9 ⟨rfl, bb9⟩
 have S9 := Lib.hid (S8.out.below bb9)
 have K9 := Lib.hid (K8.out.grown (GrownL.of_below (bs := []) bb9) (by simp) (by simp))
 have J9 := Lib.hid (BelS.c bb9 J8.out)
 have OV9 := Lib.hid (OV8.out.below bb9)
 clear bb9 x7 f7
 go_wp2_with fail
 have HZZ : Hid (w.heap.size + 2 < w2.heap.size ∧ w2.heap.size < w5.heap.size ∧ w5.heap.size < gb) := Lib.hid ⟨by have := HSZ.out; omega, HZ5.out, by have := HGB.out.1; have := HZ6.out; omega⟩
 obtain ⟨x0, hx0⟩ : ∃ x, s.river[j]? = some x := ⟨_, List.getElem?_eq_getElem HLT.out⟩
 have ost : OwnG encI 1 3 W6.heap.size (.slice (some ⟨gb, 0, none⟩) s.river.length gc) (s.river.set j x0) w9 := by rw [set_self_of hx0]; exact OV9.out
 have NB : ∀ k, k < w5.heap.size + 1 → k ∉ [gb] := fun k hk hm => by rw [List.mem_singleton] at hm; have := HZZ.out; omega
 have hzz := HZZ.out
 have C := lowestSend_any 1048576 gb (w.heap.size + 1) w5.heap.size w.heap.size w2.heap.size (w.heap.size + 1 + 1) (sendP ws s want n j) (fun W => ∃ x, OwnG encI 1 3 W6.heap.size (.slice (some ⟨gb, 0, none⟩) s.river.length gc) (s.river.set j x) W) w9 (by decide) (OV9.out.lt gb rfl).2 ⟨x0, ost⟩ (fun _ _ ⟨x, h⟩ hb => ⟨x, h.below hb⟩) (fun k W hk hg ⟨x, hx⟩ => by
  have SW := S9.out.grown hg (NB _ (by omega)) (NB _ (by omega)) (by simp; omega)
  have KW := K9.out.grown hg (NB _ (by omega)) (NB _ (by omega))
  have JW := hg.cell J9.out (NB _ (by show w5.heap.size < _; omega))
  exact (send1_any (w.heap.size + 1) w5.heap.size w.heap.size w2.heap.size (w.heap.size + 1 + 1) gb w W _ c ws (some ⟨gb, 0, none⟩) A2 A3 A4 gc c2 c3 c4 gc W6.heap.size s n j k x want H.out SW.bel HS.out.parts.2.1 HS.out.parts.2.2.1 HS.out.parts.2.2.2 HK.out.1 (setR_ok HK.out.2.1 (by omega) (by omega)) (lt_total HK.out.2.2.2) HLT.out (by omega) SW.r SW.b SW.k SW.l KW.pa SW.wk KW.wt JW hx (by omega) (by omega) (by omega) (by omega) (by omega)).mono fun e w' ⟨h1, h2, h3⟩ => ⟨h1, h2, _, h3⟩)
 refine C.mono ?_
 rintro e w10 ⟨q, hq1, hq2, hq3, rfl, hgr, -⟩
 have HQ := Lib.hid (And.intro hq1 (And.intro hq2 hq3))
 have HG := Lib.hid hgr
 obtain ⟨ra, hra⟩ : ∃ ra, (if 1048576 < q then (0 : Int) else (q : Int)) = ra := ⟨_, rfl⟩
 obtain ⟨rr, hrr⟩ : ∃ rr, (if 1048576 < q then (5 : Int) else 0) = rr := ⟨_, rfl⟩
 have HRA := Lib.hid (And.intro hra hrr)
 have HZ := Lib.hid hzz
 rw [hra, hrr]
 clear hq1 hq2 hq3 hgr hra hrr C NB ost hx0 hzz
 go_wp2_with fail
 refine bodyPost_ret (results_tmp2 rfl _ _ _) rfl ?_
 refine ⟨ra, rr, rfl, fun h => absurd rfl h, fun _ => ?_, S9.out.bel.trans (HG.out.below (by have := HZ.out; simp; omega) S9.out.bel.size)⟩
 unfold headAt
 rw [Int.toNat_natCast, HJ.out.1, Int.toNat_natCast]
 exact ⟨q, HQ.out.1, HQ.out.2.1, HQ.out.2.2, HRA.out.1.symm, HRA.out.2.symm⟩
end Go.Proofs.Ytkoacclbempmdaa

/- The chapter's examples: their works, water and case, in memory. -/
namespace Go.Proofs.Ytkoacclbempmdaa
open Go.RowKit

/-- The works of the examples; h is where their function's blocks begin. -/
def mWk (h : Nat) : Wk := [[⟨1, 1, some ⟨h + 1, 0, none⟩, 3, [0, 40, 80], 0, 5, 2, 4⟩, ⟨2, -1, some ⟨h + 2, 0, none⟩, 2, [0, 30], 1, 1, 0, 10⟩], [⟨3, -1, some ⟨h + 5, 0, none⟩, 4, [0, 10, 20, 50], 0, 0, 1, 3⟩, ⟨4, -1, some ⟨h + 6, 0, none⟩, 2, [0, 20], 0, 2, 0, 0⟩]]
def mWa : Wa := ⟨[100], [1, 1, 2, 1], [5, 1, 0, 2], [2, 10, 3, 0]⟩
def mCa : Ca := ⟨[(60, 100)], [(1, 2), (0, 1), (2, 2), (1, 1)]⟩

theorem ri_lit {B : Nat} {w : World} (b : Nat) (vs : List Int) (c : Nat) (hb : b < B) (hl : Fits vs.length) (h : ∀ k n, vs[k]? = some n → w.cell? ⟨b, 0 + k, none⟩ = some (.int .i64 n)) : RI B (.slice (some ⟨b, 0, none⟩) vs.length c) vs w := ⟨_, c, rfl, hl, fun _ => ⟨b, 0, rfl, hb, h⟩⟩

set_option maxHeartbeats 16000000 in
set_option maxRecDepth 1000000 in
theorem meadow_any (w : World) : Calls Try.prog 76 #[] w fun e w' => ∃ v, e = .returned (.agg #[v]) ∧ RK w'.heap.size v (mWk w.heap.size) w' ∧ Below w.heap.size w w' := by
 obtain ⟨W, hW⟩ : ∃ W, ((((((((((w.alloc (.cells #[.slice (some ⟨w.heap.size + 1 + 1 + 1 + 1 + 1 + 1 + 1 + 1 + 1, 0, none⟩) 2 2] 24)).alloc (.cells #[.int .i64 0, .int .i64 40, .int .i64 80] 3)).alloc (.cells #[.int .i64 0, .int .i64 30] 3)).alloc (.cells #[.int .i64 1, .int .i64 1, .slice (some ⟨w.heap.size + 1, 0, none⟩) 3 3, .int .i64 0, .int .i64 5, .int .i64 2, .int .i64 4, .int .i64 2, .int .i64 (-1), .slice (some ⟨w.heap.size + 1 + 1, 0, none⟩) 2 2, .int .i64 1, .int .i64 1, .int .i64 0, .int .i64 10] 42)).alloc (.cells #[.slice (some ⟨w.heap.size + 1 + 1 + 1, 0, none⟩) 2 2] 38)).alloc (.cells #[.int .i64 0, .int .i64 10, .int .i64 20, .int .i64 50] 3)).alloc (.cells #[.int .i64 0, .int .i64 20] 3)).alloc (.cells #[.int .i64 3, .int .i64 (-1), .slice (some ⟨w.heap.size + 1 + 1 + 1 + 1 + 1, 0, none⟩) 4 4, .int .i64 0, .int .i64 0, .int .i64 1, .int .i64 3, .int .i64 4, .int .i64 (-1), .slice (some ⟨w.heap.size + 1 + 1 + 1 + 1 + 1 + 1, 0, none⟩) 2 2, .int .i64 0, .int .i64 2, .int .i64 0, .int .i64 0] 42)).alloc (.cells #[.slice (some ⟨w.heap.size + 1 + 1 + 1 + 1 + 1 + 1 + 1, 0, none⟩) 2 2] 38)).alloc (.cells #[.slice (some ⟨w.heap.size + 1 + 1 + 1, 0, none⟩) 2 2, .slice (some ⟨w.heap.size + 1 + 1 + 1 + 1 + 1 + 1 + 1, 0, none⟩) 2 2] 38)) = W := ⟨_, rfl⟩
 have HW := Lib.hid hW
 have HB : Hid (Below w.heap.size w W) := Lib.hid (by rw [← hW]; exact ((((((((((Below.refl _ _).alloc (by simp <;> omega) _).alloc (by simp <;> omega) _).alloc (by simp <;> omega) _).alloc (by simp <;> omega) _).alloc (by simp <;> omega) _).alloc (by simp <;> omega) _).alloc (by simp <;> omega) _).alloc (by simp <;> omega) _).alloc (by simp <;> omega) _).alloc (by simp <;> omega) _)
 have c0 : W.cell? ⟨w.heap.size, 0, none⟩ = some (.slice (some ⟨w.heap.size + 1 + 1 + 1 + 1 + 1 + 1 + 1 + 1 + 1, 0, none⟩) 2 2) := by rw [← hW]; simp [go_sem]
 have HK : Hid (RK W.heap.size (.slice (some ⟨w.heap.size + 1 + 1 + 1 + 1 + 1 + 1 + 1 + 1 + 1, 0, none⟩) 2 2) (mWk w.heap.size) W) := Lib.hid ⟨some ⟨w.heap.size + 1 + 1 + 1 + 1 + 1 + 1 + 1 + 1 + 1, 0, none⟩, 2, rfl, (show (2 : Nat) ≤ 1000000000000000 by decide), fun _ => ⟨w.heap.size + 1 + 1 + 1 + 1 + 1 + 1 + 1 + 1 + 1, 0, rfl, by rw [← hW]; simp, fun k x hk => by
  match k, hk with
  | 0, hk =>
   cases hk
   exact ⟨.slice (some ⟨w.heap.size + 1 + 1 + 1, 0, none⟩) 2 2, by rw [← hW]; simp [go_sem], ⟨some ⟨w.heap.size + 1 + 1 + 1, 0, none⟩, 2, rfl, (show (2 : Nat) ≤ 1000000000000000 by decide), fun _ => ⟨w.heap.size + 1 + 1 + 1, 0, rfl, by rw [← hW]; simp, fun k x hk => by
    match k, hk with
    | 0, hk =>
     cases hk
     exact ⟨by rw [← hW]; simp [go_sem], by rw [← hW]; simp [go_sem], by rw [← hW]; simp [go_sem], ri_lit (w.heap.size + 1) [0, 40, 80] 3 (by rw [← hW]; simp) (by decide) (fun k n hk => by
      match k, hk with
      | 0, hk => cases hk; rw [← hW]; simp [go_sem]
            | 1, hk => cases hk; rw [← hW]; simp [go_sem]
            | 2, hk => cases hk; rw [← hW]; simp [go_sem]
      | k + 3, hk => simp at hk), by rw [← hW]; simp [go_sem], by rw [← hW]; simp [go_sem], by rw [← hW]; simp [go_sem], by rw [← hW]; simp [go_sem]⟩
    | 1, hk =>
     cases hk
     exact ⟨by rw [← hW]; simp [go_sem], by rw [← hW]; simp [go_sem], by rw [← hW]; simp [go_sem], ri_lit (w.heap.size + 1 + 1) [0, 30] 2 (by rw [← hW]; simp) (by decide) (fun k n hk => by
      match k, hk with
      | 0, hk => cases hk; rw [← hW]; simp [go_sem]
            | 1, hk => cases hk; rw [← hW]; simp [go_sem]
      | k + 2, hk => simp at hk), by rw [← hW]; simp [go_sem], by rw [← hW]; simp [go_sem], by rw [← hW]; simp [go_sem], by rw [← hW]; simp [go_sem]⟩
    | k + 2, hk => simp at hk⟩⟩⟩
  | 1, hk =>
   cases hk
   exact ⟨.slice (some ⟨w.heap.size + 1 + 1 + 1 + 1 + 1 + 1 + 1, 0, none⟩) 2 2, by rw [← hW]; simp [go_sem], ⟨some ⟨w.heap.size + 1 + 1 + 1 + 1 + 1 + 1 + 1, 0, none⟩, 2, rfl, (show (2 : Nat) ≤ 1000000000000000 by decide), fun _ => ⟨w.heap.size + 1 + 1 + 1 + 1 + 1 + 1 + 1, 0, rfl, by rw [← hW]; simp, fun k x hk => by
    match k, hk with
    | 0, hk =>
     cases hk
     exact ⟨by rw [← hW]; simp [go_sem], by rw [← hW]; simp [go_sem], by rw [← hW]; simp [go_sem], ri_lit (w.heap.size + 1 + 1 + 1 + 1 + 1) [0, 10, 20, 50] 4 (by rw [← hW]; simp) (by decide) (fun k n hk => by
      match k, hk with
      | 0, hk => cases hk; rw [← hW]; simp [go_sem]
            | 1, hk => cases hk; rw [← hW]; simp [go_sem]
            | 2, hk => cases hk; rw [← hW]; simp [go_sem]
            | 3, hk => cases hk; rw [← hW]; simp [go_sem]
      | k + 4, hk => simp at hk), by rw [← hW]; simp [go_sem], by rw [← hW]; simp [go_sem], by rw [← hW]; simp [go_sem], by rw [← hW]; simp [go_sem]⟩
    | 1, hk =>
     cases hk
     exact ⟨by rw [← hW]; simp [go_sem], by rw [← hW]; simp [go_sem], by rw [← hW]; simp [go_sem], ri_lit (w.heap.size + 1 + 1 + 1 + 1 + 1 + 1) [0, 20] 2 (by rw [← hW]; simp) (by decide) (fun k n hk => by
      match k, hk with
      | 0, hk => cases hk; rw [← hW]; simp [go_sem]
            | 1, hk => cases hk; rw [← hW]; simp [go_sem]
      | k + 2, hk => simp at hk), by rw [← hW]; simp [go_sem], by rw [← hW]; simp [go_sem], by rw [← hW]; simp [go_sem], by rw [← hW]; simp [go_sem]⟩
    | k + 2, hk => simp at hk⟩⟩⟩
  | k + 2, hk => simp [mWk] at hk⟩⟩
 clear hW
 go_enter Try.func76, Try.ntmps76
 go_wp2_with fail
 rw [HW.out]
 exact bodyPost_ret (v := .agg #[.slice (some ⟨w.heap.size + 1 + 1 + 1 + 1 + 1 + 1 + 1 + 1 + 1, 0, none⟩) 2 2]) (by simp [results, Try.results76, go_sem, c0]) rfl ⟨_, rfl, HK.out, HB.out⟩
set_option maxHeartbeats 16000000 in
set_option maxRecDepth 1000000 in
theorem now_any (w : World) : Calls Try.prog 77 #[] w fun e w' => ∃ v, e = .returned v ∧ RWa w'.heap.size v mWa w' ∧ Below w.heap.size w w' := by
 obtain ⟨W, hW⟩ : ∃ W, (((((w.alloc (.cells #[.slice (some ⟨w.heap.size + 1, 0, none⟩) 1 1, .slice (some ⟨w.heap.size + 1 + 1, 0, none⟩) 4 4, .slice (some ⟨w.heap.size + 1 + 1 + 1, 0, none⟩) 4 4, .slice (some ⟨w.heap.size + 1 + 1 + 1 + 1, 0, none⟩) 4 4] 27)).alloc (.cells #[.int .i64 100] 3)).alloc (.cells #[.int .i64 1, .int .i64 1, .int .i64 2, .int .i64 1] 3)).alloc (.cells #[.int .i64 5, .int .i64 1, .int .i64 0, .int .i64 2] 3)).alloc (.cells #[.int .i64 2, .int .i64 10, .int .i64 3, .int .i64 0] 3)) = W := ⟨_, rfl⟩
 have HW := Lib.hid hW
 have HB : Hid (Below w.heap.size w W) := Lib.hid (by rw [← hW]; exact (((((Below.refl _ _).alloc (by simp <;> omega) _).alloc (by simp <;> omega) _).alloc (by simp <;> omega) _).alloc (by simp <;> omega) _).alloc (by simp <;> omega) _)
 have c0 : W.cell? ⟨w.heap.size, 0, none⟩ = some (.slice (some ⟨w.heap.size + 1, 0, none⟩) 1 1) := by rw [← hW]; simp [go_sem]
 have c1 : W.cell? ⟨w.heap.size, 1, none⟩ = some (.slice (some ⟨w.heap.size + 1 + 1, 0, none⟩) 4 4) := by rw [← hW]; simp [go_sem]
 have c2 : W.cell? ⟨w.heap.size, 2, none⟩ = some (.slice (some ⟨w.heap.size + 1 + 1 + 1, 0, none⟩) 4 4) := by rw [← hW]; simp [go_sem]
 have c3 : W.cell? ⟨w.heap.size, 3, none⟩ = some (.slice (some ⟨w.heap.size + 1 + 1 + 1 + 1, 0, none⟩) 4 4) := by rw [← hW]; simp [go_sem]
 have HK : Hid (RWa W.heap.size (.agg #[.slice (some ⟨w.heap.size + 1, 0, none⟩) 1 1, .slice (some ⟨w.heap.size + 1 + 1, 0, none⟩) 4 4, .slice (some ⟨w.heap.size + 1 + 1 + 1, 0, none⟩) 4 4, .slice (some ⟨w.heap.size + 1 + 1 + 1 + 1, 0, none⟩) 4 4]) mWa W) := Lib.hid ⟨_, _, _, _, rfl, ⟨some ⟨w.heap.size + 1, 0, none⟩, 1, rfl, by decide, fun _ => ⟨w.heap.size + 1, 0, rfl, by rw [← hW]; simp, fun j u hj => by
  match j, hj with
  | 0, hj => cases hj; rw [← hW]; simp [go_sem]
  | j + 1, hj => simp [encI, mWa] at hj⟩⟩, ⟨some ⟨w.heap.size + 1 + 1, 0, none⟩, 4, rfl, by decide, fun _ => ⟨w.heap.size + 1 + 1, 0, rfl, by rw [← hW]; simp, fun j u hj => by
  match j, hj with
  | 0, hj => cases hj; rw [← hW]; simp [go_sem]
  | 1, hj => cases hj; rw [← hW]; simp [go_sem]
  | 2, hj => cases hj; rw [← hW]; simp [go_sem]
  | 3, hj => cases hj; rw [← hW]; simp [go_sem]
  | j + 4, hj => simp [encI, mWa] at hj⟩⟩, ⟨some ⟨w.heap.size + 1 + 1 + 1, 0, none⟩, 4, rfl, by decide, fun _ => ⟨w.heap.size + 1 + 1 + 1, 0, rfl, by rw [← hW]; simp, fun j u hj => by
  match j, hj with
  | 0, hj => cases hj; rw [← hW]; simp [go_sem]
  | 1, hj => cases hj; rw [← hW]; simp [go_sem]
  | 2, hj => cases hj; rw [← hW]; simp [go_sem]
  | 3, hj => cases hj; rw [← hW]; simp [go_sem]
  | j + 4, hj => simp [encI, mWa] at hj⟩⟩, ⟨some ⟨w.heap.size + 1 + 1 + 1 + 1, 0, none⟩, 4, rfl, by decide, fun _ => ⟨w.heap.size + 1 + 1 + 1 + 1, 0, rfl, by rw [← hW]; simp, fun j u hj => by
  match j, hj with
  | 0, hj => cases hj; rw [← hW]; simp [go_sem]
  | 1, hj => cases hj; rw [← hW]; simp [go_sem]
  | 2, hj => cases hj; rw [← hW]; simp [go_sem]
  | 3, hj => cases hj; rw [← hW]; simp [go_sem]
  | j + 4, hj => simp [encI, mWa] at hj⟩⟩⟩
 clear hW
 go_enter Try.func77, Try.ntmps77
 go_wp2_with fail
 rw [HW.out]
 exact bodyPost_ret (v := .agg #[.slice (some ⟨w.heap.size + 1, 0, none⟩) 1 1, .slice (some ⟨w.heap.size + 1 + 1, 0, none⟩) 4 4, .slice (some ⟨w.heap.size + 1 + 1 + 1, 0, none⟩) 4 4, .slice (some ⟨w.heap.size + 1 + 1 + 1 + 1, 0, none⟩) 4 4]) (by simp [results, Try.results77, go_sem, c0, c1, c2, c3]) rfl ⟨_, rfl, HK.out, HB.out⟩
set_option maxHeartbeats 16000000 in
set_option maxRecDepth 1000000 in
theorem knownC_any (w : World) : Calls Try.prog 78 #[] w fun e w' => ∃ v, e = .returned v ∧ RCa w'.heap.size v mCa w' ∧ Below w.heap.size w w' := by
 obtain ⟨W, hW⟩ : ∃ W, (((w.alloc (.cells #[.slice (some ⟨w.heap.size + 1, 0, none⟩) 1 1, .slice (some ⟨w.heap.size + 1 + 1, 0, none⟩) 4 4] 46)).alloc (.cells #[.int .i64 60, .int .i64 100] 40)).alloc (.cells #[.int .i64 1, .int .i64 2, .int .i64 0, .int .i64 1, .int .i64 2, .int .i64 2, .int .i64 1, .int .i64 1] 40)) = W := ⟨_, rfl⟩
 have HW := Lib.hid hW
 have HB : Hid (Below w.heap.size w W) := Lib.hid (by rw [← hW]; exact (((Below.refl _ _).alloc (by simp <;> omega) _).alloc (by simp <;> omega) _).alloc (by simp <;> omega) _)
 have c0 : W.cell? ⟨w.heap.size, 0, none⟩ = some (.slice (some ⟨w.heap.size + 1, 0, none⟩) 1 1) := by rw [← hW]; simp [go_sem]
 have c1 : W.cell? ⟨w.heap.size, 1, none⟩ = some (.slice (some ⟨w.heap.size + 1 + 1, 0, none⟩) 4 4) := by rw [← hW]; simp [go_sem]
 have HK : Hid (RCa W.heap.size (.agg #[.slice (some ⟨w.heap.size + 1, 0, none⟩) 1 1, .slice (some ⟨w.heap.size + 1 + 1, 0, none⟩) 4 4]) mCa W) := Lib.hid ⟨_, _, rfl, ⟨some ⟨w.heap.size + 1, 0, none⟩, 1, rfl, by decide, fun _ => ⟨w.heap.size + 1, 0, rfl, by rw [← hW]; simp, fun j u hj => by
  match j, hj with
  | 0, hj => cases hj; rw [← hW]; simp [go_sem]
  | 1, hj => cases hj; rw [← hW]; simp [go_sem]
  | j + 2, hj => simp [enc2, mCa] at hj⟩⟩, ⟨some ⟨w.heap.size + 1 + 1, 0, none⟩, 4, rfl, by decide, fun _ => ⟨w.heap.size + 1 + 1, 0, rfl, by rw [← hW]; simp, fun j u hj => by
  match j, hj with
  | 0, hj => cases hj; rw [← hW]; simp [go_sem]
  | 1, hj => cases hj; rw [← hW]; simp [go_sem]
  | 2, hj => cases hj; rw [← hW]; simp [go_sem]
  | 3, hj => cases hj; rw [← hW]; simp [go_sem]
  | 4, hj => cases hj; rw [← hW]; simp [go_sem]
  | 5, hj => cases hj; rw [← hW]; simp [go_sem]
  | 6, hj => cases hj; rw [← hW]; simp [go_sem]
  | 7, hj => cases hj; rw [← hW]; simp [go_sem]
  | j + 8, hj => simp [enc2, mCa] at hj⟩⟩⟩
 clear hW
 go_enter Try.func78, Try.ntmps78
 go_wp2_with fail
 rw [HW.out]
 exact bodyPost_ret (v := .agg #[.slice (some ⟨w.heap.size + 1, 0, none⟩) 1 1, .slice (some ⟨w.heap.size + 1 + 1, 0, none⟩) 4 4]) (by simp [results, Try.results78, go_sem, c0, c1]) rfl ⟨_, rfl, HK.out, HB.out⟩
end Go.Proofs.Ytkoacclbempmdaa

/- The chapter's examples: what the functions say of them. -/
namespace Go.Proofs.Ytkoacclbempmdaa
open Go.RowKit

def mO1 (h : Nat) : Ou := ⟨1, 1, some ⟨h + 1, 0, none⟩, 3, [0, 40, 80], 0, 5, 2, 4⟩
def mO2 (h : Nat) : Ou := ⟨2, -1, some ⟨h + 2, 0, none⟩, 2, [0, 30], 1, 1, 0, 10⟩
def mO3 (h : Nat) : Ou := ⟨3, -1, some ⟨h + 5, 0, none⟩, 4, [0, 10, 20, 50], 0, 0, 1, 3⟩
def mO4 (h : Nat) : Ou := ⟨4, -1, some ⟨h + 6, 0, none⟩, 2, [0, 20], 0, 2, 0, 0⟩
theorem mAll (h : Nat) : allP (mWk h) = [⟨0, 0, 0, mO1 h⟩, ⟨1, 0, 1, mO2 h⟩, ⟨2, 1, 0, mO3 h⟩, ⟨3, 1, 1, mO4 h⟩] := rfl
theorem mTot (h : Nat) : total (mWk h) = 4 := rfl
theorem mOuts (h : Nat) : outs (mWk h) = [mO1 h, mO2 h, mO3 h, mO4 h] := rfl
theorem m4 {h i : Nat} {p : Pl} (hp : (allP (mWk h))[i]? = some p) : (i = 0 ∧ p = ⟨0, 0, 0, mO1 h⟩) ∨ (i = 1 ∧ p = ⟨1, 0, 1, mO2 h⟩) ∨ (i = 2 ∧ p = ⟨2, 1, 0, mO3 h⟩) ∨ (i = 3 ∧ p = ⟨3, 1, 1, mO4 h⟩) := by
 rw [mAll] at hp
 match i, hp with
 | 0, hp => cases hp; exact .inl ⟨rfl, rfl⟩
 | 1, hp => cases hp; exact .inr (.inl ⟨rfl, rfl⟩)
 | 2, hp => cases hp; exact .inr (.inr (.inl ⟨rfl, rfl⟩))
 | 3, hp => cases hp; exact .inr (.inr (.inr ⟨rfl, rfl⟩))
 | i + 4, hp => simp at hp
theorem mCheck (h : Nat) : CheckIs (mWk h) 0 := by
 refine .inr ⟨(show (2 : Nat) ≤ 16 by decide), (show (4 : Nat) ≤ 60 by decide), .inr ⟨fun j q hj hq => .inr (.inr ⟨?_, ?_, rfl⟩), rfl⟩⟩
 ·rcases m4 hq with ⟨rfl, rfl⟩ | ⟨rfl, rfl⟩ | ⟨rfl, rfl⟩ | ⟨rfl, rfl⟩ <;> rfl
 ·rintro ⟨k, r, hk, hr, hh⟩
  rcases m4 hq with ⟨rfl, rfl⟩ | ⟨rfl, rfl⟩ | ⟨rfl, rfl⟩ | ⟨rfl, rfl⟩ <;> rcases m4 hr with ⟨rfl, rfl⟩ | ⟨rfl, rfl⟩ | ⟨rfl, rfl⟩ | ⟨rfl, rfl⟩ <;> simp [mO1, mO2, mO3, mO4] at hh hk
theorem mWOk (h : Nat) : WOk (mWk h) := (mCheck h).ok
theorem mHeads (h : Nat) : headsN (mWk h) = [0] := by rfl
theorem mWaOk (h : Nat) : WaOk (mWk h) mWa := by
 refine ⟨rfl, rfl, rfl, rfl, fun x hx => ?_, fun i p x hp hx => ?_, fun i p x hp hx => ?_, fun i p x hp hx => ?_⟩
 ·simp [mWa] at hx; omega
 all_goals
  rcases m4 hp with ⟨rfl, rfl⟩ | ⟨rfl, rfl⟩ | ⟨rfl, rfl⟩ | ⟨rfl, rfl⟩ <;> cases hx <;> simp [mO1, mO2, mO3, mO4]
theorem mCaOk (h : Nat) : CaOk (mWk h) mCa := by
 refine ⟨rfl, rfl, fun x hx => ?_, fun i p x hp hx => ?_⟩
 ·simp [mCa] at hx; subst hx; rfl
 ·rcases m4 hp with ⟨rfl, rfl⟩ | ⟨rfl, rfl⟩ | ⟨rfl, rfl⟩ | ⟨rfl, rfl⟩ <;> cases hx <;> rfl
theorem mWat (h : Nat) : WatIs (mWk h) mWa 0 := .inr (.inr ⟨mCheck h, mWaOk h, rfl⟩)
theorem mCas (h : Nat) : CasIs (mWk h) mCa 0 := .inr (.inr ⟨mCheck h, mCaOk h, rfl⟩)
theorem mF4 (h : Nat) : FstIs (fun o : Ou => o.id) (outs (mWk h)) 4 ((3 : Nat) : Int) := .inl ⟨3, mO4 h, rfl, rfl, fun j o hj ho => by
 rw [mOuts] at ho
 match j, hj, ho with
 | 0, _, ho => cases ho; simp [mO1]
 | 1, _, ho => cases ho; simp [mO2]
 | 2, _, ho => cases ho; simp [mO3], rfl⟩
theorem mF2 (h : Nat) : FstIs (fun o : Ou => o.id) (outs (mWk h)) 2 ((1 : Nat) : Int) := .inl ⟨1, mO2 h, rfl, rfl, fun j o hj ho => by
 rw [mOuts] at ho
 match j, hj, ho with
 | 0, _, ho => cases ho; simp [mO1], rfl⟩
theorem mK4 (h : Nat) : KnownIs (mWk h) 4 ((3 : Nat) : Int) 0 := .inr (.inr ⟨mCheck h, mF4 h, by decide, rfl⟩)
theorem mK2 (h : Nat) : KnownIs (mWk h) 2 ((1 : Nat) : Int) 0 := .inr (.inr ⟨mCheck h, mF2 h, by decide, rfl⟩)
/-- What flows. -/
theorem mThr (h : Nat) : (flowF (mWk h) mWa).thr = [45, 31, 20, 22] := by rfl
theorem mTails (h : Nat) : tailsL (mWk h) mWa = [12, 0] := by rfl
theorem mLost (h : Nat) : (flowF (mWk h) mWa).lost = 15 := by rfl
/-- The paths. -/
theorem mUp0 (h : Nat) : FstIs (fun o : Ou => o.into) (outs (mWk h)) ((0 : Nat) : Int) (-1) := .inr ⟨fun j o ho => by
 rw [mOuts] at ho
 match j, ho with
 | 0, ho => cases ho; simp [mO1]
 | 1, ho => cases ho; simp [mO2]
 | 2, ho => cases ho; simp [mO3]
 | 3, ho => cases ho; simp [mO4]
 | j + 4, ho => simp at ho, rfl⟩
theorem mUp1 (h : Nat) : FstIs (fun o : Ou => o.into) (outs (mWk h)) ((1 : Nat) : Int) ((0 : Nat) : Int) := .inl ⟨0, mO1 h, rfl, rfl, fun j o hj => by omega, rfl⟩
theorem mP4 (h : Nat) : pathOf (mWk h) 3 = [0, 3] := pathOf_eq (mWOk h) (.step (p := ⟨3, 1, 1, mO4 h⟩) rfl (mUp1 h) (.head (p := ⟨0, 0, 0, mO1 h⟩) rfl (mUp0 h)))
theorem mP2 (h : Nat) : pathOf (mWk h) 1 = [1] := pathOf_eq (mWOk h) (.head (p := ⟨1, 0, 1, mO2 h⟩) rfl (mUp0 h))
def mE4 (c : Nat) : Nat := if c = 0 then 1 else if c = 1 then 2 else 0
def mE2 (c : Nat) : Nat := if c = 0 then 2 else 0
theorem mEnd4 (h : Nat) : endE (mWk h) 4 = mE4 := by
 funext c
 unfold mE4
 split
 ·subst c
  exact endE_at (mWOk h) (i := 3) (k := 0) (p := ⟨3, 1, 1, mO4 h⟩) (q := ⟨0, 0, 0, mO1 h⟩) rfl (by rw [mP4]; simp) rfl
 ·split
  ·subst c
   exact endE_at (mWOk h) (i := 3) (k := 3) (p := ⟨3, 1, 1, mO4 h⟩) (q := ⟨3, 1, 1, mO4 h⟩) rfl (by rw [mP4]; simp) rfl
  ·refine endE_none (mWOk h) (i := 3) (p := ⟨3, 1, 1, mO4 h⟩) rfl (fun k hk q hq => ?_)
   rw [mP4] at hk
   rcases m4 hq with ⟨rfl, rfl⟩ | ⟨rfl, rfl⟩ | ⟨rfl, rfl⟩ | ⟨rfl, rfl⟩ <;> simp at hk ⊢ <;> omega
theorem mEnd2 (h : Nat) : endE (mWk h) 2 = mE2 := by
 funext c
 unfold mE2
 split
 ·subst c
  exact endE_at (mWOk h) (i := 1) (k := 1) (p := ⟨1, 0, 1, mO2 h⟩) (q := ⟨1, 0, 1, mO2 h⟩) rfl (by rw [mP2]; simp) rfl
 ·refine endE_none (mWOk h) (i := 1) (p := ⟨1, 0, 1, mO2 h⟩) rfl (fun k hk q hq => ?_)
  rw [mP2] at hk
  rcases m4 hq with ⟨rfl, rfl⟩ | ⟨rfl, rfl⟩ | ⟨rfl, rfl⟩ | ⟨rfl, rfl⟩ <;> simp at hk ⊢ <;> omega
theorem mLeast (h : Nat) : exW (mWk h) mCa (endE (mWk h) 4) 1 = ⟨[60], [1, 0, 2, 1], [0, 1, 0, 0], [4, 0, 3, 0]⟩ := by rw [mEnd4]; rfl
theorem mFl4 (h : Nat) : flE (mWk h) mCa 4 3 1 = 17 ∧ flE (mWk h) mCa 4 3 (-1) = 22 := by unfold flE; rw [mEnd4]; exact ⟨rfl, rfl⟩
theorem mFl2 (h : Nat) : flE (mWk h) mCa 2 1 1 = 0 ∧ flE (mWk h) mCa 2 1 (-1) = 31 := by unfold flE; rw [mEnd2]; exact ⟨rfl, rfl⟩
theorem mRests (h : Nat) : restsL (mWk h) mCa 4 3 = [1, 3, 4] := by
 unfold restsL
 rw [(mFl4 h).1, (mFl4 h).2]
 have e : restB (mWk h) mCa 4 3 17 22 = fun p => !(decide ((flowF (mWk h) (exW (mWk h) (wider mCa p) mE4 1)).thr.getD 3 0 = 17) && decide ((flowF (mWk h) (exW (mWk h) (wider mCa p) mE4 (-1))).thr.getD 3 0 = 22)) := by
  funext p
  unfold restB flE
  rw [mEnd4]
 rw [e]
 rfl
theorem mOpen (h : Nat) {a r : Int} (hl : LowIs 1 (openP (mWk h) mWa 21 3) a r) : a = 1 ∧ r = 0 := by
 have p0 : openP (mWk h) mWa 21 3 0 = false := by rfl
 have p1 : openP (mWk h) mWa 21 3 1 = true := by rfl
 obtain ⟨k, hk, h1, h2, rfl, rfl⟩ := hl
 match k, hk with
 | 0, _ => have := h2 (by decide); rw [p0] at this; cases this
 | 1, _ => exact ⟨rfl, rfl⟩
 | 2, _ => have := h1 (by decide); rw [show (2 - 1 : Nat) = 1 from rfl, p1] at this; cases this
theorem mHead (h : Nat) : headAt (mWk h) 4 = 0 := by
 unfold headAt sigH
 rw [mEnd4, mHeads]
 rfl
theorem mSendF (h : Nat) (r : Int) : (flowF (mWk h) (setR mWa 0 r)).thr.getD 3 0 = min (min (r - min r 2) 45 - min (min (r - min r 2) 45) 3 - min (min (r - min r 2) 45 - min (min (r - min r 2) 45) 3) 20 - min (min (r - min r 2) 45 - min (min (r - min r 2) 45) 3 - min (min (r - min r 2) 45 - min (min (r - min r 2) 45) 3) 20) 0) 22 := by rfl
theorem mSend (h : Nat) {a r : Int} (hl : LowIs 1048576 (sendP (mWk h) mWa 22 3 0) a r) : a = 47 ∧ r = 0 := by
 have hp : ∀ k : Nat, sendP (mWk h) mWa 22 3 0 k = decide (47 ≤ k) := fun k => by
  unfold sendP
  rw [mSendF]
  apply decide_eq_decide.2
  omega
 obtain ⟨k, hk, h1, h2, rfl, rfl⟩ := hl
 simp only [hp, decide_eq_true_eq, decide_eq_false_iff_not] at h1 h2
 rw [if_neg (by omega), if_neg (by omega)]
 omega
end Go.Proofs.Ytkoacclbempmdaa
