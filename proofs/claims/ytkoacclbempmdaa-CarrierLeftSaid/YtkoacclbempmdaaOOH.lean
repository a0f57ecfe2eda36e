/- Contract of extreme. -/
import Derived.Test.YtkoacclbempmdaaGW
namespace Go.Proofs.Ytkoacclbempmdaa
open Go.RowKit
attribute [local go_sem] Oper.semAt_some

theorem sgH_b (e : Nat → Nat) (c : Nat) : -1 ≤ sgH e c ∧ sgH e c ≤ 1 := by unfold sgH; omega
theorem sgO_b (e : Nat → Nat) (p : Pl) : -1 ≤ sgO e p ∧ sgO e p ≤ 1 := by unfold sgO; split <;> (try split) <;> omega
theorem sgR_b (e : Nat → Nat) (p : Pl) : -1 ≤ sgR e p ∧ sgR e p ≤ 1 := by unfold sgR; split <;> omega
/-- What extreme keeps besides its lists. -/
structure ExS (w : World) (v a b g1 g2 g3 : Value) (way : Int) (W : World) : Prop where
 wk : W.cell? ⟨w.heap.size, 0, none⟩ = some v
 ca : W.cell? ⟨w.heap.size + 1, 0, none⟩ = some a
 cb : W.cell? ⟨w.heap.size + 1, 1, none⟩ = some b
 s1 : W.cell? ⟨w.heap.size + 1 + 1, 0, none⟩ = some g1
 s2 : W.cell? ⟨w.heap.size + 1 + 1, 1, none⟩ = some g2
 s3 : W.cell? ⟨w.heap.size + 1 + 1, 2, none⟩ = some g3
 wy : W.cell? ⟨w.heap.size + 1 + 1 + 1, 0, none⟩ = some (.int .i64 way)
 r0 : W.cell? ⟨w.heap.size + 1 + 1 + 1 + 1, 0, none⟩ = some (.slice none 0 0)
 r1 : W.cell? ⟨w.heap.size + 1 + 1 + 1 + 1, 1, none⟩ = some (.slice none 0 0)
 r2 : W.cell? ⟨w.heap.size + 1 + 1 + 1 + 1, 2, none⟩ = some (.slice none 0 0)
 r3 : W.cell? ⟨w.heap.size + 1 + 1 + 1 + 1, 3, none⟩ = some (.slice none 0 0)
 rf : ∀ i : Nat, W.frozen? ⟨w.heap.size + 1 + 1 + 1 + 1, i, none⟩ = false
 fn : W.cell? ⟨w.heap.size + 1 + 1 + 1 + 1 + 1, 0, none⟩ = some (.func (.func 141) #[] #[.pointer (some ⟨w.heap.size + 1 + 1 + 1, 0, none⟩)])
 bel : Below w.heap.size w W
theorem ExS.siz {w W : World} {v a b g1 g2 g3 : Value} {way : Int} (h : ExS w v a b g1 g2 g3 way W) : w.heap.size + 6 ≤ W.heap.size := World.block_lt_of_cell? _ _ h.fn
theorem ExS.grown {w W W' : World} {v a b g1 g2 g3 : Value} {way : Int} {bs : List Nat} (h : ExS w v a b g1 g2 g3 way W) (hg : GrownL bs W W') (hn : ∀ k ∈ bs, w.heap.size + 6 ≤ k) : ExS w v a b g1 g2 g3 way W' := by
 have nb : ∀ k, k ≤ w.heap.size + 5 → k ∉ bs := fun k hk hm => by have := hn k hm; omega
 exact ⟨hg.cell h.wk (nb _ (by show w.heap.size ≤ _; omega)), hg.cell h.ca (nb _ (by show w.heap.size + 1 ≤ _; omega)), hg.cell h.cb (nb _ (by show w.heap.size + 1 ≤ _; omega)), hg.cell h.s1 (nb _ (by show w.heap.size + 2 ≤ _; omega)), hg.cell h.s2 (nb _ (by show w.heap.size + 2 ≤ _; omega)), hg.cell h.s3 (nb _ (by show w.heap.size + 2 ≤ _; omega)), hg.cell h.wy (nb _ (by show w.heap.size + 3 ≤ _; omega)),
  hg.cell h.r0 (nb _ (by show w.heap.size + 4 ≤ _; omega)), hg.cell h.r1 (nb _ (by show w.heap.size + 4 ≤ _; omega)), hg.cell h.r2 (nb _ (by show w.heap.size + 4 ≤ _; omega)), hg.cell h.r3 (nb _ (by show w.heap.size + 4 ≤ _; omega)), fun i => (World.frozen?_of_block (a := ⟨w.heap.size + 4, i, none⟩) (hg.block (w.heap.size + 4) (World.block_lt_of_cell? _ _ h.r0) (nb _ (by omega)))).trans (h.rf i), hg.cell h.fn (nb _ (by show w.heap.size + 5 ≤ _; omega)), h.bel.trans (hg.below (fun b hb => by have := hn b hb; omega) h.bel.size)⟩
theorem ExS.below {w W W' : World} {v a b g1 g2 g3 : Value} {way : Int} (h : ExS w v a b g1 g2 g3 way W) (hb : Below W.heap.size W W') : ExS w v a b g1 g2 g3 way W' := h.grown (GrownL.of_below (bs := []) hb) (by simp)

theorem store4 {P : Program} {W : World} {b : Nat} {a0 a1 a2 a3 : Value} (h0 : W.cell? ⟨b, 0, none⟩ = some a0) (h1 : W.cell? ⟨b, 1, none⟩ = some a1) (h2 : W.cell? ⟨b, 2, none⟩ = some a2) (h3 : W.cell? ⟨b, 3, none⟩ = some a3) (hf : ∀ i : Nat, W.frozen? ⟨b, i, none⟩ = false) (v0 v1 v2 v3 : Value) (e0 : v0.oneCell' = true) (e1 : v1.oneCell' = true) (e2 : v2.oneCell' = true) (e3 : v3.oneCell' = true) :
  (store ⟨b, 0, none⟩ v0).run P W = .ok () (W.setCell ⟨b, 0, none⟩ v0) ∧ (store ⟨b, 1, none⟩ v1).run P (W.setCell ⟨b, 0, none⟩ v0) = .ok () ((W.setCell ⟨b, 0, none⟩ v0).setCell ⟨b, 1, none⟩ v1) ∧ (store ⟨b, 2, none⟩ v2).run P ((W.setCell ⟨b, 0, none⟩ v0).setCell ⟨b, 1, none⟩ v1) = .ok () (((W.setCell ⟨b, 0, none⟩ v0).setCell ⟨b, 1, none⟩ v1).setCell ⟨b, 2, none⟩ v2) ∧
  (store ⟨b, 3, none⟩ v3).run P (((W.setCell ⟨b, 0, none⟩ v0).setCell ⟨b, 1, none⟩ v1).setCell ⟨b, 2, none⟩ v2) = .ok () ((((W.setCell ⟨b, 0, none⟩ v0).setCell ⟨b, 1, none⟩ v1).setCell ⟨b, 2, none⟩ v2).setCell ⟨b, 3, none⟩ v3) ∧
  ∃ W4, (((W.setCell ⟨b, 0, none⟩ v0).setCell ⟨b, 1, none⟩ v1).setCell ⟨b, 2, none⟩ v2).setCell ⟨b, 3, none⟩ v3 = W4 ∧ W4.cell? ⟨b, 0, none⟩ = some v0 ∧ W4.cell? ⟨b, 1, none⟩ = some v1 ∧ W4.cell? ⟨b, 2, none⟩ = some v2 ∧ W4.cell? ⟨b, 3, none⟩ = some v3 ∧ GrownL [b] W W4 := by
 have n : ∀ i j, i ≠ j → ∀ (X : World) (v : Value), (X.setCell ⟨b, i, none⟩ v).cell? ⟨b, j, none⟩ = X.cell? ⟨b, j, none⟩ := fun i j hij X v => World.cell?_setCell_other _ ⟨b, i, none⟩ ⟨b, j, none⟩ _ (by simp <;> omega)
 have s : ∀ i (X : World) (v : Value), (X.cell? ⟨b, i, none⟩).isSome = true → (X.setCell ⟨b, i, none⟩ v).cell? ⟨b, i, none⟩ = some v := fun i X v h => World.cell?_setCell_same' _ _ _ h
 have st : ∀ i (X : World) (a v : Value), X.cell? ⟨b, i, none⟩ = some a → X.frozen? ⟨b, i, none⟩ = false → v.oneCell' = true → (store ⟨b, i, none⟩ v).run P X = .ok () (X.setCell ⟨b, i, none⟩ v) := fun i X a v hc hf ho => by
  rw [run_store _ _ _ _ _ ho]
  simp [hc, hf]
 have fz : ∀ i j (X : World) (v : Value), (X.setCell ⟨b, i, none⟩ v).frozen? ⟨b, j, none⟩ = X.frozen? ⟨b, j, none⟩ := fun i j X v => World.frozen?_setCell _ _ _ _
 have c1 : (W.setCell ⟨b, 0, none⟩ v0).cell? ⟨b, 1, none⟩ = some a1 := by rw [n 0 1 (by decide), h1]
 have c2 : ((W.setCell ⟨b, 0, none⟩ v0).setCell ⟨b, 1, none⟩ v1).cell? ⟨b, 2, none⟩ = some a2 := by rw [n 1 2 (by decide), n 0 2 (by decide), h2]
 have c3 : (((W.setCell ⟨b, 0, none⟩ v0).setCell ⟨b, 1, none⟩ v1).setCell ⟨b, 2, none⟩ v2).cell? ⟨b, 3, none⟩ = some a3 := by rw [n 2 3 (by decide), n 1 3 (by decide), n 0 3 (by decide), h3]
 refine ⟨st 0 W a0 v0 h0 (hf 0) e0, st 1 _ a1 v1 c1 (by rw [fz]; exact hf 1) e1, st 2 _ a2 v2 c2 (by rw [fz, fz]; exact hf 2) e2, st 3 _ a3 v3 c3 (by rw [fz, fz, fz]; exact hf 3) e3, _, rfl, ?_, ?_, ?_, ?_, ?_⟩
 ·rw [n 3 0 (by decide), n 2 0 (by decide), n 1 0 (by decide), s 0 _ _ (by rw [h0]; rfl)]
 ·rw [n 3 1 (by decide), n 2 1 (by decide), s 1 _ _ (by rw [c1]; rfl)]
 ·rw [n 3 2 (by decide), s 2 _ _ (by rw [c2]; rfl)]
 ·rw [s 3 _ _ (by rw [c3]; rfl)]
 ·exact (((GrownL.set _ _ _ (by simp)).trans (GrownL.set _ _ _ (by simp))).trans (GrownL.set _ _ _ (by simp))).trans (GrownL.set _ _ _ (by simp))

theorem rv_len (ws : Wk) (s : Ca) (e : Nat → Nat) (way : Int) : (exW ws s e way).river.length = s.river.length := by simp [exW]
theorem rv_at {ws : Wk} {s : Ca} {e : Nat → Nat} {way : Int} {i : Nat} {g lo hi : Int} (hg : ((headsN ws).map (sgH e))[i]? = some g) (hs : s.river[i]? = some (lo, hi)) : (exW ws s e way).river[i]? = some (endV g way lo hi) := by
 have hi' := (List.getElem?_eq_some_iff.1 hs).1
 unfold exW
 rw [List.getElem?_map, List.getElem?_range hi', Option.map_some, getD_of hg, getD_of hs]
theorem bd_at {ws : Wk} {s : Ca} {e : Nat → Nat} {way : Int} {i : Nat} {p : Pl} {lo hi : Int} (hp : (allP ws)[i]? = some p) (hs : s.boards[i]? = some (lo, hi)) : (exW ws s e way).boards[i]? = some (endV (sgO e p) way lo hi) := by
 unfold exW
 rw [List.getElem?_map, hp, Option.map_some, (allP_inv hp).1, getD_of hs]
theorem lk_at {ws : Wk} {s : Ca} {e : Nat → Nat} {way : Int} {i : Nat} {p : Pl} (hp : (allP ws)[i]? = some p) : (exW ws s e way).leaks[i]? = some (endV (sgO e p) way p.o.k0 p.o.k1) := by
 unfold exW
 rw [List.getElem?_map, hp, Option.map_some]
theorem ls_at {ws : Wk} {s : Ca} {e : Nat → Nat} {way : Int} {i : Nat} {p : Pl} (hp : (allP ws)[i]? = some p) : (exW ws s e way).losses[i]? = some (endV (sgR e p) way p.o.s0 p.o.s1) := by
 unfold exW
 rw [List.getElem?_map, hp, Option.map_some]

set_option maxHeartbeats 16000000 in
set_option maxRecDepth 1000000 in
theorem extreme_any (A : Option Addr) (c : Nat) (cv gv1 gv2 gv3 : Value) (ws : Wk) (s : Ca) (e : Nat → Nat) (way : Int) (w : World) (h : RK w.heap.size (.slice A ws.length c) ws w) (hs : RCa w.heap.size cv s w)
  (hg1 : RR encI w.heap.size gv1 ((headsN ws).map (sgH e)) w) (hg2 : RR encI w.heap.size gv2 ((allP ws).map (sgO e)) w) (hg3 : RR encI w.heap.size gv3 ((allP ws).map (sgR e)) w) (hw : WOk ws) (hc : CaOk ws s) (hway : way = 1 ∨ way = -1) :
  Calls Try.prog 131 #[.agg #[.slice A ws.length c], cv, .agg #[gv1, gv2, gv3], .int .i64 way] w fun ed w' => ∃ v1 v2 v3 v4, ed = .returned (.agg #[v1, v2, v3, v4]) ∧ OwnG encI 1 3 w.heap.size v1 (exW ws s e way).river w' ∧ OwnG encI 1 3 w.heap.size v2 (exW ws s e way).boards w' ∧ OwnG encI 1 3 w.heap.size v3 (exW ws s e way).leaks w' ∧ OwnG encI 1 3 w.heap.size v4 (exW ws s e way).losses w' ∧ Below w.heap.size w w' := by
 obtain ⟨B1, b1, B2, b2, rfl⟩ := hs.form
 have HL1 : Hid (((headsN ws).map (sgH e)).length = s.river.length) := Lib.hid (by rw [hc.r]; simp [headsL])
 have HL2 : Hid (((allP ws).map (sgO e)).length = total ws) := Lib.hid (by rw [List.length_map, allP_len])
 have HL3 : Hid (((allP ws).map (sgR e)).length = total ws) := Lib.hid (by rw [List.length_map, allP_len])
 obtain ⟨G1, g1, rfl⟩ := hg1.slice
 obtain ⟨G2, g2, rfl⟩ := hg2.slice
 obtain ⟨G3_, g3, rfl⟩ := hg3.slice
 have H := Lib.hid h
 have HS := Lib.hid hs
 have HW := Lib.hid hw
 have HC := Lib.hid hc
 have HWAY := Lib.hid hway
 have R1 := Lib.hid hg1
 have R2 := Lib.hid hg2
 have R3 := Lib.hid hg3
 have hrl := headsL_len hw
 have hrl2 : s.river.length ≤ 16 := by rw [hc.r]; exact hrl
 have hrl0 : (s.river.length : Int) ≤ 16 := by omega
 obtain ⟨ng1, hng1⟩ : ∃ n, ((headsN ws).map (sgH e)).length = n := ⟨_, rfl⟩
 obtain ⟨ng2, hng2⟩ : ∃ n, ((allP ws).map (sgO e)).length = n := ⟨_, rfl⟩
 obtain ⟨ng3, hng3⟩ : ∃ n, ((allP ws).map (sgR e)).length = n := ⟨_, rfl⟩
 rw [hng1] at R1 HL1 ⊢
 rw [hng2] at R2 HL2 ⊢
 rw [hng3] at R3 HL3 ⊢
 have NG1 := Lib.hid hng1
 have NG2 := Lib.hid hng2
 have NG3 := Lib.hid hng3
 clear h hs hg1 hg2 hg3 hw hc hway hng1 hng2 hng3 hrl
 refine (callsIn_wide (n := 3)).1 ?_
 refine callsIn_of_wp_marks Try.func131 rfl trivial ?_ rfl
 simp only [Try.ntmps131, List.size_toArray, List.length_cons, List.length_nil, Nat.reduceAdd, Nat.reduceSub, Array.replicate_succ, Array.replicate_zero, List.push_toArray, List.append_toArray, List.nil_append, List.cons_append]
 gi_wp2_with fail
 obtain ⟨W6, hW6⟩ : ∃ W6, (((((w.alloc (.cells #[.slice A ws.length c] 24)).alloc (.cells #[.slice B1 s.river.length b1, .slice B2 s.boards.length b2] 46)).alloc (.cells #[.slice G1 ng1 g1, .slice G2 ng2 g2, .slice G3_ ng3 g3] 138)).alloc (.cells #[.int .i64 way] 3)).alloc (.cells #[.slice none 0 0, .slice none 0 0, .slice none 0 0, .slice none 0 0] 27)).alloc (.cells #[.nilFunc] 185) = W6 := ⟨_, rfl⟩
 have hz6 : W6.heap.size = w.heap.size + 6 := by rw [← hW6]; simp
 have c5 : W6.cell? ⟨w.heap.size + 1 + 1 + 1 + 1 + 1, 0, none⟩ = some .nilFunc := by rw [← hW6]; simp [go_sem]
 have f5 : W6.frozen? ⟨w.heap.size + 1 + 1 + 1 + 1 + 1, 0, none⟩ = false := by rw [← hW6]; simp [go_sem]
 have b6 : Below w.heap.size w W6 := by rw [← hW6]; exact ((((((Below.refl _ _).alloc (Nat.le_refl _) _).alloc (by simp) _).alloc (by simp; omega) _).alloc (by simp; omega) _).alloc (by simp; omega) _).alloc (by simp; omega) _
 obtain ⟨W7, hW7⟩ : ∃ W7, (W6.setCell ⟨w.heap.size + 1 + 1 + 1 + 1 + 1, 0, none⟩ (.func (.func 141) #[] #[.pointer (some ⟨w.heap.size + 1 + 1 + 1, 0, none⟩)])).alloc (.cells #[.slice none 0 0, .slice none 0 0, .slice none 0 0, .slice none 0 0] 27) = W7 := ⟨_, rfl⟩
 have g67 : GrownL [w.heap.size + 5] W6 W7 := by rw [← hW7]; exact (GrownL.set _ _ _ (by simp)).trans (GrownL.of_below ((Below.refl _ _).alloc (Nat.le_refl _) _))
 have ES0 : Hid (ExS w (.slice A ws.length c) (.slice B1 s.river.length b1) (.slice B2 s.boards.length b2) (.slice G1 ng1 g1) (.slice G2 ng2 g2) (.slice G3_ ng3 g3) way W7) := Lib.hid (by
  have n : ∀ k, k ≠ w.heap.size + 5 → k ∉ [w.heap.size + 5] := fun k hk hm => hk (by simpa using hm)
  refine ⟨g67.cell (by rw [← hW6]; simp [go_sem]) (n _ (by simp)), g67.cell (by rw [← hW6]; simp [go_sem]) (n _ (by simp)), g67.cell (by rw [← hW6]; simp [go_sem]) (n _ (by simp)), g67.cell (by rw [← hW6]; simp [go_sem]) (n _ (by simp)), g67.cell (by rw [← hW6]; simp [go_sem]) (n _ (by simp)), g67.cell (by rw [← hW6]; simp [go_sem]) (n _ (by simp)), g67.cell (by rw [← hW6]; simp [go_sem]) (n _ (by simp)), g67.cell (by rw [← hW6]; simp [go_sem]) (n _ (by simp)), g67.cell (by rw [← hW6]; simp [go_sem]) (n _ (by simp)), g67.cell (by rw [← hW6]; simp [go_sem]) (n _ (by simp)), g67.cell (by rw [← hW6]; simp [go_sem]) (n _ (by simp)), fun i => ?_, ?_, b6.trans (g67.below (by simp) b6.size)⟩
  ·refine (World.frozen?_of_block (a := ⟨w.heap.size + 1 + 1 + 1 + 1, i, none⟩) (g67.block (w.heap.size + 4) (by omega) (n _ (by simp)))).trans ?_
   rw [← hW6]
   simp [go_sem]
  ·rw [← hW7]
   refine BelS.c ((Below.refl _ _).alloc (Nat.le_refl _) _) ?_
   exact World.cell?_setCell_same' _ _ _ (by rw [c5]; rfl))
 have hz7 : W7.heap.size = w.heap.size + 7 := by rw [← hW7]; simp [hz6]
 have GL0 : Hid (GL (w.heap.size + 6) (w.heap.size + 7) [(.slice none 0 0), (.slice none 0 0), (.slice none 0 0), (.slice none 0 0)] [[], [], [], []] W7) := Lib.hid (GL.nils (n := 4) (by omega) (by omega) (fun k hk => by
   have hs : (W6.setCell ⟨w.heap.size + 1 + 1 + 1 + 1 + 1, 0, none⟩ (.func (.func 141) #[] #[.pointer (some ⟨w.heap.size + 1 + 1 + 1, 0, none⟩)])).heap.size = w.heap.size + 6 := by simp [hz6]
   have hb := World.alloc_heap_new (W6.setCell ⟨w.heap.size + 1 + 1 + 1 + 1 + 1, 0, none⟩ (.func (.func 141) #[] #[.pointer (some ⟨w.heap.size + 1 + 1 + 1, 0, none⟩)])) (.cells #[(.slice none 0 0), (.slice none 0 0), (.slice none 0 0), (.slice none 0 0)] 27)
   rw [hW7, hs] at hb
   rw [cell_of_row _ _ k _ _ _ hb]
   match k, hk with
   | 0, _ => rfl
   | 1, _ => rfl
   | 2, _ => rfl
   | 3, _ => rfl) (fun k => by
   have hs : (W6.setCell ⟨w.heap.size + 1 + 1 + 1 + 1 + 1, 0, none⟩ (.func (.func 141) #[] #[.pointer (some ⟨w.heap.size + 1 + 1 + 1, 0, none⟩)])).heap.size = w.heap.size + 6 := by simp [hz6]
   have hb := World.alloc_heap_new (W6.setCell ⟨w.heap.size + 1 + 1 + 1 + 1 + 1, 0, none⟩ (.func (.func 141) #[] #[.pointer (some ⟨w.heap.size + 1 + 1 + 1, 0, none⟩)])) (.cells #[(.slice none 0 0), (.slice none 0 0), (.slice none 0 0), (.slice none 0 0)] 27)
   rw [hW7, hs] at hb
   unfold World.frozen?
   rw [hb]
   simp))
 have y6 : W6.cell? ⟨w.heap.size + 1, 0, none⟩ = some (.slice B1 s.river.length b1) := by rw [← hW6]; simp [go_sem]
 rw [hW6]
 rw [run_store _ _ _ _ _ rfl]
 simp only [c5, f5, Bool.false_eq_true, if_false, Result.andThen, Oper.uponIn]
 obtain ⟨W6s, hW6s⟩ : ∃ W6s, W6.setCell ⟨w.heap.size + 1 + 1 + 1 + 1 + 1, 0, none⟩ (.func (.func 141) #[] #[.pointer (some ⟨w.heap.size + 1 + 1 + 1, 0, none⟩)]) = W6s := ⟨_, rfl⟩
 have z6s : W6s.heap.size = w.heap.size + 6 := by rw [← hW6s]; simp [hz6]
 have y6s : W6s.cell? ⟨w.heap.size + 1, 0, none⟩ = some (.slice B1 s.river.length b1) := by rw [← hW6s, World.cell?_setCell_other _ ⟨w.heap.size + 1 + 1 + 1 + 1 + 1, 0, none⟩ ⟨w.heap.size + 1, 0, none⟩ _ (by simp)]; exact y6
 rw [hW6s] at hW7 ⊢
 have HW7 := Lib.hid hW7
 have HZ7 := Lib.hid hz7
 clear hW7 hW6s hW6 g67 b6 hz7 c5 f5 y6 hz6
 gi_wp2_with fail
 --LOOP1
 rw [HW7.out]
 obtain ⟨rv, hrv⟩ : ∃ rv, (exW ws s e way).river = rv := ⟨_, rfl⟩
 have HRV := Lib.hid hrv
 have HRL : Hid (rv.length = s.river.length) := Lib.hid (by rw [← hrv, rv_len])
 clear hrv z6s y6s HW7
 have y7 := ES0.out.ca
 gi_loopw [19] (fun t wr => ∃ (i : Nat) (v1 : Value), t = .int .i64 i ∧ i ≤ s.river.length ∧ ExS w (.slice A ws.length c) (.slice B1 s.river.length b1) (.slice B2 s.boards.length b2) (.slice G1 ng1 g1) (.slice G2 ng2 g2) (.slice G3_ ng3 g3) way wr ∧ GL (w.heap.size + 6) (w.heap.size + 7) [v1, (.slice none 0 0), (.slice none 0 0), (.slice none 0 0)] [rv.take i, [], [], []] wr) (fun t _ => s.river.length - (intOf t).toNat)
 case atStart => exact ⟨0, _, rfl, by omega, ES0.out, GL0.out⟩
 case round =>
  obtain ⟨i, v1, rfl, hi, hES, hGL⟩ := hrel
  have ESr := Lib.hid hES
  have GLr := Lib.hid hGL
  clear hES hGL y7
  by_cases hil : i < s.river.length
  ·have hi0 : (i : Int) < (s.river.length : Int) := by omega
   obtain ⟨⟨lo, hi_⟩, hx⟩ : ∃ x, s.river[i]? = some x := ⟨_, List.getElem?_eq_getElem hil⟩
   obtain ⟨g, hg⟩ : ∃ g, ((headsN ws).map (sgH e))[i]? = some g := ⟨_, List.getElem?_eq_getElem (by rw [NG1.out, HL1.out]; exact hil)⟩
   have HG6 := Lib.hid hg
   have HGB6 : Hid (-1 ≤ g ∧ g ≤ 1) := Lib.hid (by
    rw [List.getElem?_map] at hg
    obtain ⟨c', -, rfl⟩ := Option.map_eq_some_iff.1 hg
    exact sgH_b e c')
   have HNX : Hid (rv.take (i + 1) = rv.take i ++ [endV g way lo hi_]) := Lib.hid (take_at (by rw [← HRV.out]; exact rv_at hg hx))
   obtain ⟨br, or_, rfl, hbr, q1, q2⟩ := (HS.out.parts.1.up ESr.out.bel.size ESr.out.bel).span hx
   simp only at q1 q2
   obtain ⟨Au, cu, rfl, -⟩ := (GLr.out.o 0 _ _ rfl rfl).form
   obtain ⟨rt, hrt⟩ : ∃ rt, rv.take i = rt := ⟨_, rfl⟩
   rw [hrt] at GLr HNX
   have HLB6 : Hid (rt.length ≤ 1000) := Lib.hid (by rw [← hrt, List.length_take]; omega)
   obtain ⟨nu, hnu⟩ : ∃ nu, rt.length = nu := ⟨_, rfl⟩
   rw [hnu] at GLr
   have OWB6 : Hid (∀ k, (Value.slice Au nu cu).ownBlock = some k → w.heap.size + 7 ≤ k ∧ k < wr.heap.size) := Lib.hid fun k hk => GLr.out.own (k := 0) rfl hk
   have HZN : Hid (w.heap.size + 7 ≤ wr.heap.size) := Lib.hid (by have := GLr.out.gl; omega)
   clear hx hg hnu hrt
   gi_wp2_with fail
   obtain ⟨W8, hW8⟩ : ∃ W8, wr.alloc (.cells #[.int .i64 lo, .int .i64 hi_] 40) = W8 := ⟨_, rfl⟩
   have u0 : W8.cell? ⟨wr.heap.size, 0, none⟩ = some (.int .i64 lo) := by rw [← hW8]; simp [go_sem]
   have u1 : W8.cell? ⟨wr.heap.size, 1, none⟩ = some (.int .i64 hi_) := by rw [← hW8]; simp [go_sem]
   have bW8 : Below wr.heap.size wr W8 := by rw [← hW8]; exact (Below.refl _ _).alloc (Nat.le_refl _) _
   have ES6 := Lib.hid (ESr.out.below bW8)
   have GLh6 := Lib.hid (GLr.out.below bW8)
   have BW8 := Lib.hid bW8
   have fnf := ES6.out.fn
   have sgf := ES6.out.s1
   rw [hW8]
   clear hW8 q1 q2 bW8
   obtain ⟨Wd6, hWd⟩ : ∃ Wd, World.drew W8 = Wd := ⟨_, rfl⟩
   have gWd : GrownL [] W8 Wd6 := by rw [← hWd]; exact (GrownL.refl _ _).drew
   have HWd := Lib.hid hWd
   have NI6 : Hid (∀ k, k < w.heap.size + 7 ∨ wr.heap.size ≤ k → k ∉ ((Value.slice Au nu cu)).ownBlock.toList) := Lib.hid fun k hk hm => by have := OWB6.out k (by simpa using hm); omega
   have fnfd := gWd.cell fnf (by simp)
   have sgfd := gWd.cell sgf (by simp)
   have u0d := gWd.cell u0 (by simp)
   have u1d := gWd.cell u1 (by simp)
   have wyd := gWd.cell (ES6.out.wy) (by simp)
   have ud := gWd.cell (GLh6.out.c 0 _ rfl) (by simp)
   have zd : Wd6.frozen? ⟨w.heap.size + 6, 0, none⟩ = false := (World.frozen?_of_block (a := ⟨w.heap.size + 6, 0, none⟩) (gWd.block (w.heap.size + 6) GLh6.out.gl (by simp))).trans (GLh6.out.f 0)
   have bd6 : Hid (Below w.heap.size w Wd6) := Lib.hid (ES6.out.bel.trans (gWd.below (by simp) ES6.out.bel.size))
   have OAD6 : Hid (OwnG encI 1 3 (w.heap.size + 7) ((Value.slice Au nu cu)) (rt) Wd6) := Lib.hid ((GLh6.out.o 0 _ _ rfl rfl).grown gWd (by simp))
   have GWd6 := Lib.hid gWd
   clear fnf sgf u0 u1 hWd gWd
   gi_wp2_with fail
   refine wpIn_region_T 11 open_wide (S := GrownL ((Value.slice Au nu cu)).ownBlock.toList (World.drew W8)) (by kernel_rfl) (by kernel_rfl) (GrownL.refl _ _) (fun J0 => ?_)
   rw [HWd.out] at J0 ⊢
   refine tt 0 24 J0 ?_
   try simp only [aS]
   have KK1 := Lib.hid fun (w_ : World) (hSw : GrownL _ _ w_) => And.intro (hSw.cell fnfd (NI6.out _ (by show w.heap.size + 5 < _ ∨ _ ≤ w.heap.size + 5; have := HZN.out; omega))) (And.intro (hSw.cell sgfd (NI6.out _ (by show w.heap.size + 2 < _ ∨ _ ≤ w.heap.size + 2; have := HZN.out; omega))) (And.intro (hSw.cell u0d (NI6.out _ (by show wr.heap.size < _ ∨ _ ≤ wr.heap.size; have := HZN.out; omega))) (And.intro (hSw.cell u1d (NI6.out _ (by show wr.heap.size < _ ∨ _ ≤ wr.heap.size; have := HZN.out; omega))) (And.intro (hSw.cell wyd (NI6.out _ (by show w.heap.size + 3 < _ ∨ _; omega))) (hSw.cell ud (NI6.out _ (by show w.heap.size + 6 < _ ∨ _; omega)))))))
   refine tq KK1 1 25 J0 ?_
   try simp only [aS]
   refine tq KK1 2 26 J0 ?_
   try simp only [aS]
   refine tt 3 27 J0 ?_
   try simp only [aS]
   refine tq KK1 4 28 J0 ?_
   try simp only [aS]
   refine tt 5 29 J0 ?_
   try simp only [aS]
   refine tq KK1 6 30 J0 ?_
   try simp only [aS]
   refine oneT (i := 7) (by kernel_rfl) rfl (fun K hK => ?_)
   go_simp
   have hby := bd6.out.trans (GrownL.below J0 (B := w.heap.size) (fun b hb => by have := OWB6.out b (by simpa using hb); omega) bd6.out.size)
   refine (extreme1_any _ _ _ i _ ((headsN ws).map (sgH e)) (g) way lo hi_ _ ((R1.out).up hby.size hby) (NG1.out.symm) HG6.out (J0.cell wyd (NI6.out _ (by show w.heap.size + 3 < _ ∨ _; omega))) HGB6.out.1 HGB6.out.2 HWAY.out).mono ?_
   rintro e wq ⟨rfl, bq⟩
   have OAX6 := Lib.hid (OAD6.out.below bq)
   have J1 := J0.trans (GrownL.of_below (bs := ((Value.slice Au nu cu)).ownBlock.toList) bq)
   clear bq hby
   refine hK.out _ _ J1 ?_
   clear hK K
   try simp only [aS]
   refine oneT (i := 8) (by kernel_rfl) rfl (fun K hK => ?_)
   go_simp
   have J2 : GrownL ((Value.slice Au nu cu)).ownBlock.toList Wd6 (wq.alloc (.cells #[.int .i64 (endV g way lo hi_)] 3)) := J1.trans (GrownL.of_below ((Below.refl _ _).alloc (Nat.le_refl _) _))
   refine hK.out _ _ J2 ?_
   clear hK K
   try simp only [aS]
   refine oneT (i := 9) (by kernel_rfl) rfl (fun K hK => ?_)
   refine step_appA rfl _ _ rfl (w.heap.size + 7) ((Value.slice Au nu cu)) (rt) rfl (OAX6.out.below ((Below.refl _ _).alloc (Nat.le_refl _) _)) (by have := HLB6.out; omega) wq.heap.size (endV g way lo hi_) rfl (by simp [go_sem]) (by have := J1.size; have := GWd6.out.size; have := GLh6.out.gl; simp; omega) (fun v4 w4 ho4 g4 ha4 => ?_)
   have HO6 := Lib.hid ho4
   have HGr6 : Hid (GrownL ((Value.slice Au nu cu)).ownBlock.toList W8 w4) := Lib.hid (((GWd6.out.mono (by simp)).trans J2).trans g4)
   have HAt6 : Hid (v4.ownBlock = ((Value.slice Au nu cu)).ownBlock ∨ ∃ n, v4.ownBlock = some n ∧ (W8).heap.size ≤ n) := Lib.hid (ha4.imp (fun h => h) (fun ⟨n, e, hn⟩ => ⟨n, e, by have := J1.size; have := GWd6.out.size; simp at hn; omega⟩))
   have y4 : w4.cell? ⟨w.heap.size + 6, 0, none⟩ = some ((Value.slice Au nu cu)) := g4.cell (J2.cell ud (NI6.out _ (by show w.heap.size + 6 < _ ∨ _; omega))) (NI6.out _ (by show w.heap.size + 6 < _ ∨ _; omega))
   have z4 : w4.frozen? ⟨w.heap.size + 6, 0, none⟩ = false := (World.frozen?_of_block (a := ⟨w.heap.size + 6, 0, none⟩) ((J2.trans g4).block _ (World.block_lt_of_cell? _ _ ud) (NI6.out _ (by show w.heap.size + 6 < _ ∨ _; omega)))).trans zd
   have J3 := J2.trans g4
   obtain ⟨A46, c46, rfl, -⟩ := ho4.form
   obtain ⟨n46, hl4⟩ : ∃ n46, ((rt) ++ [(endV g way lo hi_)]).length = n46 := ⟨_, rfl⟩
   rw [hl4] at HO6 HAt6 ⊢
   clear ho4 g4 ha4 hl4
   try go_simp
   refine hK.out _ _ J3 ?_
   clear hK K
   try simp only [aS]
   refine tt 10 34 J3 ?_
   try simp only [aS]
   refine lastT (by kernel_rfl) rfl (fun K hK => ?_)
   go_simp
   refine hK.out _ _ ?_
   clear hK K
   try simp only [aS]
   refine doneTN (by kernel_rfl) ?_ _
   have GX := GLh6.out.app (k := 0) rfl rfl HGr6.out HO6.out HAt6.out
   obtain ⟨W9, hWo⟩ : ∃ Wo, w4.setCell ⟨w.heap.size + 6, 0, none⟩ (.slice A46 n46 c46) = Wo := ⟨_, rfl⟩
   have GG6 : Hid (GrownL ((w.heap.size + 6) :: ((Value.slice Au nu cu)).ownBlock.toList) W8 W9) := Lib.hid (by rw [← hWo]; exact (HGr6.out.mono (by simp +contextual)).trans (GrownL.set _ _ _ (by simp)))
   have GN6 : Hid (GL (w.heap.size + 6) (w.heap.size + 7) [(.slice A46 n46 c46), (.slice none 0 0), (.slice none 0 0), (.slice none 0 0)] [(rt) ++ [(endV g way lo hi_)], [], [], []] W9) := Lib.hid (by rw [← hWo]; exact GX)
   have HWo := hWo
   rw [hWo]
   clear J0 J1 J2 J3 y4 z4 GX hWo HWo wyd ud zd fnfd sgfd u0d u1d
   gi_wp2_with fail
   go_roundw
   case rel => exact ⟨i + 1, _, by go_num, by omega, ES6.out.grown GG6.out (fun k hk => by
    rcases List.mem_cons.1 hk with e | hk
    ·omega
    ·have := OWB6.out k (by simpa using hk); omega), by rw [HNX.out]; exact GN6.out⟩
   case measure => show s.river.length - ((i : Int) + 1).toNat < s.river.length - (i : Int).toNat; omega
  ·have hi0 : (s.river.length : Int) ≤ (i : Int) := by omega
   have HRE : Hid (rv.take i = rv) := Lib.hid (by rw [List.take_of_length_le (by rw [HRL.out]; omega)])
   rw [HRE.out] at GLr
   clear hi
   have y7 := ESr.out.wk
   gi_wp2_with fail
   refine ⟨trivial, (callsIn_wide.2 (places_any A ws.length c _)).mono ?_⟩
   rintro e9 w9 ⟨rfl, rfl⟩
   obtain ⟨Wb, hWb⟩ : ∃ Wb, wr.alloc (.cells #[.slice A ws.length c] 24) = Wb := ⟨_, rfl⟩
   have hzb : Wb.heap.size = wr.heap.size + 1 := by rw [← hWb]; simp
   have bwb : Below wr.heap.size wr Wb := by rw [← hWb]; exact (Below.refl _ _).alloc (Nat.le_refl _) _
   have HZB := Lib.hid hzb
   have HWB : Hid (w.heap.size + 7 ≤ wr.heap.size) := Lib.hid (by have := GLr.out.gl; omega)
   obtain ⟨A1_, c1_, rfl, -⟩ := (GLr.out.o 0 _ _ rfl rfl).form
   obtain ⟨n1_, hn1_⟩ : ∃ n1_, rv.length = n1_ := ⟨_, rfl⟩
   rw [hn1_] at GLr
   have HN1_ := Lib.hid hn1_
   have HU1 : Hid (∀ b, (Value.slice A1_ n1_ c1_).ownBlock = some b → w.heap.size + 7 ≤ b ∧ b < Wb.heap.size) := Lib.hid fun b hb => by have := GLr.out.own (k := 0) rfl hb; omega
   obtain ⟨fB, hfB⟩ : ∃ fB : Pl → Int, fB = fun p => endV (sgO e p) way (s.boards.getD p.at_ (0, 0)).1 (s.boards.getD p.at_ (0, 0)).2 := ⟨_, rfl⟩
   obtain ⟨fK, hfK⟩ : ∃ fK : Pl → Int, fK = fun p => endV (sgO e p) way p.o.k0 p.o.k1 := ⟨_, rfl⟩
   obtain ⟨fS, hfS⟩ : ∃ fS : Pl → Int, fS = fun p => endV (sgR e p) way p.o.s0 p.o.s1 := ⟨_, rfl⟩
   have HFIN : Hid ((exW ws s e way).boards = (allP ws).map fB ∧ (exW ws s e way).leaks = (allP ws).map fK ∧ (exW ws s e way).losses = (allP ws).map fS) := Lib.hid (by rw [hfB, hfK, hfS]; exact ⟨rfl, rfl, rfl⟩)
   have HFB := Lib.hid hfB
   have HFK := Lib.hid hfK
   have HFS := Lib.hid hfS
   have J00 : Hid (ExS w (.slice A ws.length c) (.slice B1 s.river.length b1) (.slice B2 s.boards.length b2) (.slice G1 ng1 g1) (.slice G2 ng2 g2) (.slice G3_ ng3 g3) way Wb ∧ GL (w.heap.size + 6) (w.heap.size + 7) [.slice A1_ n1_ c1_, (.slice none 0 0), (.slice none 0 0), (.slice none 0 0)] [rv, ([] : List Pl).map fB, ([] : List Pl).map fK, ([] : List Pl).map fS] Wb ∧ Wb.cell? ⟨wr.heap.size, 0, none⟩ = some (.slice A ws.length c)) := Lib.hid ⟨ESr.out.below bwb, GLr.out.below bwb, by rw [← hWb]; simp [go_sem]⟩
   clear hzb bwb hn1_ hfB hfK hfS y7 hil
   gi_wp2_with fail
   try rw [hWb]
   refine wpIn_rangeP (gf := 132) (lb := #[.pointer (some ⟨wr.heap.size, 0, none⟩)]) rfl enters_places1
    (placesP_seq w Wb wr.heap.size A ws.length c ws H.out (by have := HW.out.tot; omega) (by have := HW.out.len; omega)) (Below.refl _ _) (fun _ => rfl)
    (fun p W' => ExS w (.slice A ws.length c) (.slice B1 s.river.length b1) (.slice B2 s.boards.length b2) (.slice G1 ng1 g1) (.slice G2 ng2 g2) (.slice G3_ ng3 g3) way W' ∧ (∃ u2 u3 u4, GL (w.heap.size + 6) (w.heap.size + 7) [.slice A1_ n1_ c1_, u2, u3, u4] [rv, p.map fB, p.map fK, p.map fS] W' ∧ (∀ b, u2.ownBlock = some b → Wb.heap.size + 2 ≤ b) ∧ (∀ b, u3.ownBlock = some b → Wb.heap.size + 2 ≤ b) ∧ (∀ b, u4.ownBlock = some b → Wb.heap.size + 2 ≤ b)) ∧ W'.cell? ⟨wr.heap.size, 0, none⟩ = some (.slice A ws.length c)) (fun _ _ _ => False) (fun _ _ h => ⟨h.1.bel, h.2.2⟩) ?h0b ?hIb (fun _ _ _ _ h _ => h) ?roundb ?doneb (fun _ _ _ _ h _ => h.elim)
   case h0b =>
    intro W' hb hsz
    obtain ⟨a1, a2, a3⟩ := J00.out
    exact ⟨a1.below hb, ⟨_, _, _, a2.below hb, (fun b e => by cases e), (fun b e => by cases e), (fun b e => by cases e)⟩, BelS.c hb a3⟩
   case hIb =>
    rintro p Wx Wy ⟨a1, ⟨u2, u3, u4, a2, b2, b3, b4⟩, a3⟩ hg
    have nb : ∀ k, k < Wb.heap.size → k ∉ [Wb.heap.size, Wb.heap.size + 1] := fun k hk hm => by simp at hm; omega
    have q1 := HZB.out
    have q2 := HWB.out
    exact ⟨a1.grown hg (fun b hb => by simp at hb; omega), ⟨u2, u3, u4, a2.grown_ hg (nb _ (by omega)) (fun k u b hu hb => by
     match k, hu with
     | 0, hu => cases hu; exact nb _ (HU1.out b hb).2
     | 1, hu => cases hu; exact fun hm => by have := b2 b hb; simp at hm; omega
     | 2, hu => cases hu; exact fun hm => by have := b3 b hb; simp at hm; omega
     | 3, hu => cases hu; exact fun hm => by have := b4 b hb; simp at hm; omega
     | k + 4, hu => simp at hu), b2, b3, b4⟩, hg.cell a3 (nb _ (by show wr.heap.size < _; omega))⟩
   case doneb =>
    rintro xs W hS ⟨a1, ⟨u2, u3, u4, a2, b2, b3, b4⟩, -⟩ hK
    obtain rfl : xs = allP ws := hS
    rw [← HFIN.out.1, ← HFIN.out.2.1, ← HFIN.out.2.2, ← HRV.out] at a2
    have G := Lib.hid a2
    have HB := Lib.hid a1.bel
    have c0 := a2.c 0 _ rfl
    have c1 := a2.c 1 _ rfl
    have c2 := a2.c 2 _ rfl
    have c3 := a2.c 3 _ rfl
    obtain ⟨A2_, c2_, rfl, -⟩ := (a2.o 1 _ _ rfl rfl).form
    obtain ⟨A3_, c3_, rfl, -⟩ := (a2.o 2 _ _ rfl rfl).form
    obtain ⟨A5_, c5_, rfl, -⟩ := (a2.o 3 _ _ rfl rfl).form
    obtain ⟨m2, hm2⟩ : ∃ m2, (exW ws s e way).boards.length = m2 := ⟨_, rfl⟩
    obtain ⟨m3, hm3⟩ : ∃ m3, (exW ws s e way).leaks.length = m3 := ⟨_, rfl⟩
    obtain ⟨m4, hm4⟩ : ∃ m4, (exW ws s e way).losses.length = m4 := ⟨_, rfl⟩
    rw [hm2] at G c1 b2
    rw [hm3] at G c2 b3
    rw [hm4] at G c3 b4
    obtain ⟨s0, s1, s2, s3, W5, hW5, p0, p1, p2, p3, gs⟩ := store4 (P := Try.prog) a1.r0 a1.r1 a1.r2 a1.r3 a1.rf (.slice A1_ n1_ c1_) (.slice A2_ m2 c2_) (.slice A3_ m3 c3_) (.slice A5_ m4 c5_) rfl rfl rfl rfl
    have HZN : Hid (w.heap.size + 7 ≤ Wb.heap.size) := Lib.hid (by have := HZB.out; have := HWB.out; omega)
    have OBB2 := Lib.hid b2
    have OBB3 := Lib.hid b3
    have OBB4 := Lib.hid b4
    have r0 := a1.r0
    have r1 := a1.r1
    have r2 := a1.r2
    have r3 := a1.r3
    have rf0 := a1.rf 0
    have rf1 := a1.rf 1
    have rf2 := a1.rf 2
    have rf3 := a1.rf 3
    have HW5 := Lib.hid hW5
    have HP := Lib.hid (And.intro p0 (And.intro p1 (And.intro p2 p3)))
    have GS := Lib.hid gs
    clear a1 a2 b2 b3 b4 s0 s1 s2 s3 hW5 hm2 hm3 hm4 p0 p1 p2 p3 gs
    gi_wp2_with fail
    rw [HW5.out]
    clear r0 r1 r2 r3 rf0 rf1 rf2 rf3 HW5
    have k5 : W5.heap[Wb.heap.size]? = some (.deferred (some [])) := (GS.out.block _ (Array.getElem?_eq_some_iff.1 hK).1 (by have := HZN.out; simp; omega)).trans hK
    have gp : GrownL [Wb.heap.size] W5 (W5.putObj Wb.heap.size (.deferred none)) := GrownL.putObj (bs := [Wb.heap.size]) W5 Wb.heap.size (.deferred none) (by simp)
    obtain ⟨p0, p1, p2, p3⟩ := HP.out
    have nn : w.heap.size + 1 + 1 + 1 + 1 ∉ [Wb.heap.size] := by have := HZN.out; simp; omega
    have r0 := gp.cell p0 nn
    have r1 := gp.cell p1 nn
    have r2 := gp.cell p2 nn
    have r3 := gp.cell p3 nn
    have GG : GrownL [w.heap.size + 4, Wb.heap.size] W (W5.putObj Wb.heap.size (.deferred none)) := (GS.out.mono (by simp)).trans (gp.mono (by simp))
    refine ⟨by simp, .inl ⟨_, _, rfl, run_takeDeferred k5, ?_⟩⟩
    have ow : ∀ (k : Nat) u l, ([.slice A1_ n1_ c1_, .slice A2_ m2 c2_, .slice A3_ m3 c3_, .slice A5_ m4 c5_] : List Value)[k]? = some u → [(exW ws s e way).river, (exW ws s e way).boards, (exW ws s e way).leaks, (exW ws s e way).losses][k]? = some l → (∀ b, u.ownBlock = some b → b ≠ Wb.heap.size) → OwnG encI 1 3 w.heap.size u l (W5.putObj Wb.heap.size (.deferred none)) := fun k u l hu hl hb => ((G.out.o k u l hu hl).grown GG (fun b hb' hm => by have := (G.out.own hu hb').1; have := hb b hb'; simp at hm; omega)).low (by omega)
    refine ⟨.agg #[.slice A1_ n1_ c1_, .slice A2_ m2 c2_, .slice A3_ m3 c3_, .slice A5_ m4 c5_], by simp [results, Try.results131, go_sem, r0, r1, r2, r3], _, _, _, _, rfl, ow 0 _ _ rfl rfl (fun b hb => by have := (HU1.out b hb).2; omega), ow 1 _ _ rfl rfl (fun b hb => by have := OBB2.out b hb; omega), ow 2 _ _ rfl rfl (fun b hb => by have := OBB3.out b hb; omega), ow 3 _ _ rfl rfl (fun b hb => by have := OBB4.out b hb; omega), HB.out.trans (GG.below (fun b hb => by have := HZN.out; simp at hb; omega) HB.out.size)⟩
   rintro pre x W' ⟨a1, ⟨u2, u3, u4, a2, ob2, ob3, ob4⟩, a3⟩ hsz hsp
   obtain ⟨A2_, c2_, rfl, -⟩ := (a2.o 1 _ _ rfl rfl).form
   obtain ⟨A3_, c3_, rfl, -⟩ := (a2.o 2 _ _ rfl rfl).form
   obtain ⟨A5_, c5_, rfl, -⟩ := (a2.o 3 _ _ rfl rfl).form
   obtain ⟨n, hxn, hpre, hnl, hnt⟩ := sp_next hsp
   obtain ⟨xa, xc, xn, x⟩ := x
   have hat : xa = n := (allP_inv hxn).1
   subst hat
   have hn60 : xa < 60 := by have := HW.out.tot; omega
   have HTS : Hid (∀ f : Pl → Int, (pre ++ [(⟨xa, xc, xn, x⟩ : Pl)]).map f = pre.map f ++ [f (⟨xa, xc, xn, x⟩ : Pl)]) := Lib.hid fun f => by simp
   have HPL : Hid (∀ f : Pl → Int, (pre.map f).length ≤ 1000) := Lib.hid fun f => by rw [List.length_map]; omega
   obtain ⟨⟨lo, hi_⟩, hb⟩ : ∃ y, s.boards[xa]? = some y := ⟨_, List.getElem?_eq_getElem (by rw [HC.out.b]; exact lt_total hxn)⟩
   have HVB : Hid (fB (⟨xa, xc, xn, x⟩ : Pl) = endV (sgO e (⟨xa, xc, xn, x⟩ : Pl)) way lo hi_) := Lib.hid (by rw [HFB.out]; show endV _ way (s.boards.getD xa (0, 0)).1 (s.boards.getD xa (0, 0)).2 = _; rw [getD_of hb])
   have HVK : Hid (fK (⟨xa, xc, xn, x⟩ : Pl) = endV (sgO e (⟨xa, xc, xn, x⟩ : Pl)) way x.k0 x.k1) := Lib.hid (by rw [HFK.out])
   have HVS : Hid (fS (⟨xa, xc, xn, x⟩ : Pl) = endV (sgR e (⟨xa, xc, xn, x⟩ : Pl)) way x.s0 x.s1) := Lib.hid (by rw [HFS.out])
   have HG11 : Hid (((allP ws).map (sgO e))[xa]? = some (sgO e (⟨xa, xc, xn, x⟩ : Pl))) := Lib.hid (by rw [List.getElem?_map, hxn]; rfl)
   have HG12 := HG11
   have HG13 : Hid (((allP ws).map (sgR e))[xa]? = some (sgR e (⟨xa, xc, xn, x⟩ : Pl))) := Lib.hid (by rw [List.getElem?_map, hxn]; rfl)
   have HGB11 := Lib.hid (sgO_b e (⟨xa, xc, xn, x⟩ : Pl))
   have HGB12 := HGB11
   have HGB13 := Lib.hid (sgR_b e (⟨xa, xc, xn, x⟩ : Pl))
   obtain ⟨so, hso⟩ : ∃ so, sgO e (⟨xa, xc, xn, x⟩ : Pl) = so := ⟨_, rfl⟩
   obtain ⟨sr, hsr⟩ : ∃ sr, sgR e (⟨xa, xc, xn, x⟩ : Pl) = sr := ⟨_, rfl⟩
   rw [hso] at HVB HVK HG11 HG12 HGB11 HGB12
   rw [hsr] at HVS HG13 HGB13
   obtain ⟨br, or_, hB2, hbr, q1w, q2w⟩ := HS.out.parts.2.span hb
   have lb : (xa : Int) < (s.boards.length : Int) := by have := (List.getElem?_eq_some_iff.1 hb).1; omega
   have hxa1 : (0 : Int) ≤ (xa : Int) := by omega
   subst hB2
   simp only at q1w q2w
   obtain ⟨l2, hl2⟩ : ∃ l2, pre.map fB = l2 := ⟨_, rfl⟩
   obtain ⟨l3, hl3⟩ : ∃ l3, pre.map fK = l3 := ⟨_, rfl⟩
   obtain ⟨l4, hl4⟩ : ∃ l4, pre.map fS = l4 := ⟨_, rfl⟩
   have HLB11 : Hid (l2.length ≤ 1000) := Lib.hid (by rw [← hl2]; exact HPL.out fB)
   have HLB12 : Hid (l3.length ≤ 1000) := Lib.hid (by rw [← hl3]; exact HPL.out fK)
   have HLB13 : Hid (l4.length ≤ 1000) := Lib.hid (by rw [← hl4]; exact HPL.out fS)
   have HNL : Hid ((pre ++ [(⟨xa, xc, xn, x⟩ : Pl)]).map fB = l2 ++ [endV so way lo hi_] ∧ (pre ++ [(⟨xa, xc, xn, x⟩ : Pl)]).map fK = l3 ++ [endV so way x.k0 x.k1] ∧ (pre ++ [(⟨xa, xc, xn, x⟩ : Pl)]).map fS = l4 ++ [endV sr way x.s0 x.s1]) := Lib.hid ⟨by rw [HTS.out, hl2, HVB.out], by rw [HTS.out, hl3, HVK.out], by rw [HTS.out, hl4, HVS.out]⟩
   rw [hl2, hl3, hl4] at a2
   rw [hl2] at ob2
   rw [hl3] at ob3
   rw [hl4] at ob4
   obtain ⟨n2_, hn2⟩ : ∃ n2_, l2.length = n2_ := ⟨_, rfl⟩
   obtain ⟨n3_, hn3⟩ : ∃ n3_, l3.length = n3_ := ⟨_, rfl⟩
   obtain ⟨n5_, hn5⟩ : ∃ n5_, l4.length = n5_ := ⟨_, rfl⟩
   rw [hn2, hn3, hn5] at a2
   rw [hn2] at ob2
   rw [hn3] at ob3
   rw [hn5] at ob4
   have HA1 := Lib.hid a1
   have HA2 := Lib.hid a2
   have HA3 := Lib.hid a3
   have OB11 := Lib.hid ob2
   have OB12 := Lib.hid ob3
   have OB13 := Lib.hid ob4
   have OWB11 : Hid (∀ k, (Value.slice A2_ n2_ c2_).ownBlock = some k → w.heap.size + 7 ≤ k ∧ k < W'.heap.size) := Lib.hid fun k hk => a2.own (k := 1) rfl hk
   have OWB12 : Hid (∀ k, (Value.slice A3_ n3_ c3_).ownBlock = some k → w.heap.size + 7 ≤ k ∧ k < W'.heap.size) := Lib.hid fun k hk => a2.own (k := 2) rfl hk
   have OWB13 : Hid (∀ k, (Value.slice A5_ n5_ c5_).ownBlock = some k → w.heap.size + 7 ≤ k ∧ k < W'.heap.size) := Lib.hid fun k hk => a2.own (k := 3) rfl hk
   have HZN : Hid (w.heap.size + 7 ≤ W'.heap.size) := Lib.hid (by have := a2.gl; omega)
   have HQ := Lib.hid (And.intro hbr (And.intro q1w q2w))
   clear a1 a2 a3 ob2 ob3 ob4 hsp hpre hnl hnt hb hxn hso hsr hl2 hl3 hl4 hn2 hn3 hn5 HVB HVK HVS q1w q2w
   dsimp only [encP]
   gi_wp2_with fail
   refine ⟨Keeps.of_below (((Below.refl _ _).alloc (Nat.le_refl _) _).alloc (by simp) _), fun W2 hg2 hl2 => ?_⟩
   obtain ⟨hP, hO, hg, hz2⟩ := po_cells hg2 (by have := HZB.out; omega)
   have nb : ∀ k, k < Wb.heap.size → k ∉ [Wb.heap.size + 1] := fun k hk hm => by simp at hm; omega
   have q1 := HZB.out
   have q2 := HWB.out
   have ES11 := Lib.hid (HA1.out.grown hg (fun b hb => by simp at hb; omega))
   have GLh11 := Lib.hid (HA2.out.grown_ hg (nb _ (by omega)) (fun k u b hu hb => by
     match k, hu with
     | 0, hu => cases hu; exact nb _ (HU1.out b hb).2
     | 1, hu => cases hu; exact fun hm => by have := OB11.out b hb; simp at hm; omega
     | 2, hu => cases hu; exact fun hm => by have := OB12.out b hb; simp at hm; omega
     | 3, hu => cases hu; exact fun hm => by have := OB13.out b hb; simp at hm; omega
     | k + 4, hu => simp at hu))
   have IT11 := Lib.hid (hg.cell HA3.out (nb _ (by show wr.heap.size < _; omega)))
   have PP11 := Lib.hid hP
   have OO11 := Lib.hid hO
   have KP11 : Hid (Keeps [Wb.heap.size, Wb.heap.size + 1] W2 W2) := Lib.hid (Keeps.of_below (Below.refl _ _))
   have SZ11 : Hid (W'.heap.size ≤ W2.heap.size) := Lib.hid (by omega)
   have qa := ES11.out.bel.cell (p := ⟨br, or_ + xa * 2, none⟩) HQ.out.1 |>.trans HQ.out.2.1
   have qb := ES11.out.bel.cell (p := ⟨br, or_ + xa * 2 + 1, none⟩) HQ.out.1 |>.trans HQ.out.2.2
   have fnf := ES11.out.fn
   have sgf := ES11.out.s2
   have cbf := ES11.out.cb
   have paf := PP11.out.at_
   have HBR : Hid (br < w.heap.size) := Lib.hid HQ.out.1
   simp only at paf
   have HSZ : Hid (Wb.heap.size + 2 ≤ W'.heap.size) := Lib.hid hsz
   clear hP hO hg hz2 hg2 hl2 hsz nb q1 q2 HA1 HA2 HA3
   obtain ⟨Wd11, hWd⟩ : ∃ Wd, World.drew W2 = Wd := ⟨_, rfl⟩
   have gWd : GrownL [] W2 Wd11 := by rw [← hWd]; exact (GrownL.refl _ _).drew
   have HWd := Lib.hid hWd
   have NI11 : Hid (∀ k, k < w.heap.size + 7 ∨ W'.heap.size ≤ k → k ∉ ((Value.slice A2_ n2_ c2_)).ownBlock.toList) := Lib.hid fun k hk hm => by have := OWB11.out k (by simpa using hm); omega
   have fnfd := gWd.cell fnf (by simp)
   have sgfd := gWd.cell sgf (by simp)
   have cbfd := gWd.cell cbf (by simp)
   have pafd := gWd.cell paf (by simp)
   have qad := gWd.cell qa (by simp)
   have qbd := gWd.cell qb (by simp)
   have wyd := gWd.cell (ES11.out.wy) (by simp)
   have ud := gWd.cell (GLh11.out.c 1 _ rfl) (by simp)
   have zd : Wd11.frozen? ⟨w.heap.size + 6, 1, none⟩ = false := (World.frozen?_of_block (a := ⟨w.heap.size + 6, 1, none⟩) (gWd.block (w.heap.size + 6) GLh11.out.gl (by simp))).trans (GLh11.out.f 1)
   have bd11 : Hid (Below w.heap.size w Wd11) := Lib.hid (ES11.out.bel.trans (gWd.below (by simp) ES11.out.bel.size))
   have OAD11 : Hid (OwnG encI 1 3 (w.heap.size + 7) ((Value.slice A2_ n2_ c2_)) (l2) Wd11) := Lib.hid ((GLh11.out.o 1 _ _ rfl rfl).grown gWd (by simp))
   have GWd11 := Lib.hid gWd
   clear fnf sgf cbf paf qa qb hWd gWd
   gi_wp2_with fail
   refine wpIn_region_T 17 (open_round _) (S := GrownL ((Value.slice A2_ n2_ c2_)).ownBlock.toList (World.drew W2)) (by kernel_rfl) (by kernel_rfl) (GrownL.refl _ _) (fun J0 => ?_)
   rw [HWd.out] at J0 ⊢
   refine tt 0 40 J0 ?_
   try simp only [aS]
   have KK2 := Lib.hid fun (w_ : World) (hSw : GrownL _ _ w_) => And.intro (hSw.cell fnfd (NI11.out _ (by show w.heap.size + 5 < _ ∨ _ ≤ w.heap.size + 5; have := HZN.out; omega))) (And.intro (hSw.cell sgfd (NI11.out _ (by show w.heap.size + 2 < _ ∨ _ ≤ w.heap.size + 2; have := HZN.out; omega))) (And.intro (hSw.cell cbfd (NI11.out _ (by show w.heap.size + 1 < _ ∨ _ ≤ w.heap.size + 1; have := HZN.out; omega))) (And.intro (hSw.cell pafd (NI11.out _ (by show W'.heap.size < _ ∨ _ ≤ W'.heap.size; have := HZN.out; omega))) (And.intro (hSw.cell qad (NI11.out _ (by show br < _ ∨ _ ≤ br; have := HZN.out; omega))) (And.intro (hSw.cell qbd (NI11.out _ (by show br < _ ∨ _ ≤ br; have := HZN.out; omega))) (And.intro (hSw.cell wyd (NI11.out _ (by show w.heap.size + 3 < _ ∨ _; omega))) (hSw.cell ud (NI11.out _ (by show w.heap.size + 6 < _ ∨ _; omega)))))))))
   refine tq KK2 1 41 J0 ?_
   try simp only [aS]
   refine tq KK2 2 42 J0 ?_
   try simp only [aS]
   refine tt 3 43 J0 ?_
   try simp only [aS]
   refine tq KK2 4 44 J0 ?_
   try simp only [aS]
   refine tt 5 45 J0 ?_
   try simp only [aS]
   refine tq KK2 6 46 J0 ?_
   try simp only [aS]
   refine tt 7 47 J0 ?_
   try simp only [aS]
   refine tq KK2 8 48 J0 ?_
   try simp only [aS]
   refine tt 9 49 J0 ?_
   try simp only [aS]
   refine tq KK2 10 50 J0 ?_
   try simp only [aS]
   refine tt 11 51 J0 ?_
   try simp only [aS]
   refine tq KK2 12 52 J0 ?_
   try simp only [aS]
   refine oneT (i := 13) (by kernel_rfl) rfl (fun K hK => ?_)
   go_simp
   have hby := bd11.out.trans (GrownL.below J0 (B := w.heap.size) (fun b hb => by have := OWB11.out b (by simpa using hb); omega) bd11.out.size)
   refine (extreme1_any _ _ _ xa _ ((allP ws).map (sgO e)) (so) way lo hi_ _ ((R2.out).up hby.size hby) (NG2.out.symm) HG11.out (J0.cell wyd (NI11.out _ (by show w.heap.size + 3 < _ ∨ _; omega))) HGB11.out.1 HGB11.out.2 HWAY.out).mono ?_
   rintro e wq ⟨rfl, bq⟩
   have OAX11 := Lib.hid (OAD11.out.below bq)
   have J1 := J0.trans (GrownL.of_below (bs := ((Value.slice A2_ n2_ c2_)).ownBlock.toList) bq)
   clear bq hby
   refine hK.out _ _ J1 ?_
   clear hK K
   try simp only [aS]
   refine oneT (i := 14) (by kernel_rfl) rfl (fun K hK => ?_)
   go_simp
   have J2 : GrownL ((Value.slice A2_ n2_ c2_)).ownBlock.toList Wd11 (wq.alloc (.cells #[.int .i64 (endV so way lo hi_)] 3)) := J1.trans (GrownL.of_below ((Below.refl _ _).alloc (Nat.le_refl _) _))
   refine hK.out _ _ J2 ?_
   clear hK K
   try simp only [aS]
   refine oneT (i := 15) (by kernel_rfl) rfl (fun K hK => ?_)
   refine step_appA rfl _ _ rfl (w.heap.size + 7) ((Value.slice A2_ n2_ c2_)) (l2) rfl (OAX11.out.below ((Below.refl _ _).alloc (Nat.le_refl _) _)) (by have := HLB11.out; omega) wq.heap.size (endV so way lo hi_) rfl (by simp [go_sem]) (by have := J1.size; have := GWd11.out.size; have := GLh11.out.gl; simp; omega) (fun v4 w4 ho4 g4 ha4 => ?_)
   have HO11 := Lib.hid ho4
   have HGr11 : Hid (GrownL ((Value.slice A2_ n2_ c2_)).ownBlock.toList W2 w4) := Lib.hid (((GWd11.out.mono (by simp)).trans J2).trans g4)
   have HAt11 : Hid (v4.ownBlock = ((Value.slice A2_ n2_ c2_)).ownBlock ∨ ∃ n, v4.ownBlock = some n ∧ (W2).heap.size ≤ n) := Lib.hid (ha4.imp (fun h => h) (fun ⟨n, e, hn⟩ => ⟨n, e, by have := J1.size; have := GWd11.out.size; simp at hn; omega⟩))
   have y4 : w4.cell? ⟨w.heap.size + 6, 1, none⟩ = some ((Value.slice A2_ n2_ c2_)) := g4.cell (J2.cell ud (NI11.out _ (by show w.heap.size + 6 < _ ∨ _; omega))) (NI11.out _ (by show w.heap.size + 6 < _ ∨ _; omega))
   have z4 : w4.frozen? ⟨w.heap.size + 6, 1, none⟩ = false := (World.frozen?_of_block (a := ⟨w.heap.size + 6, 1, none⟩) ((J2.trans g4).block _ (World.block_lt_of_cell? _ _ ud) (NI11.out _ (by show w.heap.size + 6 < _ ∨ _; omega)))).trans zd
   have J3 := J2.trans g4
   obtain ⟨A411, c411, rfl, -⟩ := ho4.form
   obtain ⟨n411, hl4⟩ : ∃ n411, ((l2) ++ [(endV so way lo hi_)]).length = n411 := ⟨_, rfl⟩
   rw [hl4] at HO11 HAt11 ⊢
   clear ho4 g4 ha4 hl4
   try go_simp
   refine hK.out _ _ J3 ?_
   clear hK K
   try simp only [aS]
   refine tt 16 56 J3 ?_
   try simp only [aS]
   refine lastT (by kernel_rfl) rfl (fun K hK => ?_)
   go_simp
   refine hK.out _ _ ?_
   clear hK K
   try simp only [aS]
   refine doneTN (by kernel_rfl) ?_ _
   have GX := GLh11.out.app (k := 1) rfl rfl HGr11.out HO11.out HAt11.out
   obtain ⟨W11, hWo⟩ : ∃ Wo, w4.setCell ⟨w.heap.size + 6, 1, none⟩ (.slice A411 n411 c411) = Wo := ⟨_, rfl⟩
   have GG11 : Hid (GrownL ((w.heap.size + 6) :: ((Value.slice A2_ n2_ c2_)).ownBlock.toList) W2 W11) := Lib.hid (by rw [← hWo]; exact (HGr11.out.mono (by simp +contextual)).trans (GrownL.set _ _ _ (by simp)))
   have GN11 : Hid (GL (w.heap.size + 6) (w.heap.size + 7) [.slice A1_ n1_ c1_, (.slice A411 n411 c411), (Value.slice A3_ n3_ c3_), (Value.slice A5_ n5_ c5_)] [rv, (l2) ++ [(endV so way lo hi_)], l3, l4] W11) := Lib.hid (by rw [← hWo]; exact GX)
   have HWo := hWo
   rw [hWo]
   clear J0 J1 J2 J3 y4 z4 GX hWo HWo wyd ud zd fnfd sgfd cbfd pafd qad qbd
   have MM11 : Hid (∀ k ∈ (w.heap.size + 6) :: (Value.ownBlock (Value.slice A2_ n2_ c2_)).toList, k = w.heap.size + 6 ∨ (Wb.heap.size + 2 ≤ k ∧ k < W'.heap.size)) := Lib.hid fun k hk => by
    rcases List.mem_cons.1 hk with h | h
    ·exact .inl h
    ·exact .inr ⟨OB11.out k (by simpa using h), (OWB11.out k (by simpa using h)).2⟩
   have ES12 := Lib.hid (ES11.out.grown GG11.out (fun k hk => by have := MM11.out k hk; have := HZN.out; have := HZB.out; have := HWB.out; omega))
   have PP12 := Lib.hid (PP11.out.grown GG11.out (fun hm => by have := MM11.out _ hm; have := HZN.out; omega))
   have OO12 := Lib.hid (OO11.out.grown GG11.out (fun hm => by have := MM11.out _ hm; have := HZN.out; omega))
   have IT12 := Lib.hid (GG11.out.cell IT11.out (fun hm => by have h9 := MM11.out _ hm; have := HZB.out; have := HWB.out; simp only at h9; omega))
   have KP12 : Hid (Keeps [Wb.heap.size, Wb.heap.size + 1] W2 W11) := Lib.hid (KP11.out.trans (Keeps.of_grown GG11.out (fun o ho hm => by have := MM11.out o hm; have := HZB.out; have := HWB.out; simp at ho; omega)))
   have NB11 : Hid (∀ b, (Value.slice A411 n411 c411).ownBlock = some b → Wb.heap.size + 2 ≤ b) := Lib.hid fun b hb => by
    rcases HAt11.out with h | ⟨n, h, hn⟩
    ·exact OB11.out b (h ▸ hb)
    ·rw [h] at hb; cases hb; have := HSZ.out; have := SZ11.out; omega
   have GLh12 := GN11
   have SZ12 : Hid (W'.heap.size ≤ W11.heap.size) := Lib.hid (by have := GG11.out.size; have := SZ11.out; omega)
   have fnf := ES12.out.fn
   have sgf := ES12.out.s2
   have paf := PP12.out.at_
   have oaf := OO12.out.k0
   have obf := OO12.out.k1
   simp only at paf
   obtain ⟨Wd12, hWd⟩ : ∃ Wd, World.drew W11 = Wd := ⟨_, rfl⟩
   have gWd : GrownL [] W11 Wd12 := by rw [← hWd]; exact (GrownL.refl _ _).drew
   have HWd := Lib.hid hWd
   have NI12 : Hid (∀ k, k < w.heap.size + 7 ∨ W'.heap.size ≤ k → k ∉ ((Value.slice A3_ n3_ c3_)).ownBlock.toList) := Lib.hid fun k hk hm => by have := OWB12.out k (by simpa using hm); omega
   have fnfd := gWd.cell fnf (by simp)
   have sgfd := gWd.cell sgf (by simp)
   have pafd := gWd.cell paf (by simp)
   have oafd := gWd.cell oaf (by simp)
   have obfd := gWd.cell obf (by simp)
   have wyd := gWd.cell (ES12.out.wy) (by simp)
   have ud := gWd.cell (GLh12.out.c 2 _ rfl) (by simp)
   have zd : Wd12.frozen? ⟨w.heap.size + 6, 2, none⟩ = false := (World.frozen?_of_block (a := ⟨w.heap.size + 6, 2, none⟩) (gWd.block (w.heap.size + 6) GLh12.out.gl (by simp))).trans (GLh12.out.f 2)
   have bd12 : Hid (Below w.heap.size w Wd12) := Lib.hid (ES12.out.bel.trans (gWd.below (by simp) ES12.out.bel.size))
   have OAD12 : Hid (OwnG encI 1 3 (w.heap.size + 7) ((Value.slice A3_ n3_ c3_)) (l3) Wd12) := Lib.hid ((GLh12.out.o 2 _ _ rfl rfl).grown gWd (by simp))
   have GWd12 := Lib.hid gWd
   clear fnf sgf paf oaf obf hWd gWd
   gi_wp2_with fail
   refine wpIn_region_T 13 (open_round _) (S := GrownL ((Value.slice A3_ n3_ c3_)).ownBlock.toList (World.drew W11)) (by kernel_rfl) (by kernel_rfl) (GrownL.refl _ _) (fun J0 => ?_)
   rw [HWd.out] at J0 ⊢
   refine tt 0 57 J0 ?_
   try simp only [aS]
   have KK3 := Lib.hid fun (w_ : World) (hSw : GrownL _ _ w_) => And.intro (hSw.cell fnfd (NI12.out _ (by show w.heap.size + 5 < _ ∨ _ ≤ w.heap.size + 5; have := HZN.out; omega))) (And.intro (hSw.cell sgfd (NI12.out _ (by show w.heap.size + 2 < _ ∨ _ ≤ w.heap.size + 2; have := HZN.out; omega))) (And.intro (hSw.cell pafd (NI12.out _ (by show W'.heap.size < _ ∨ _ ≤ W'.heap.size; have := HZN.out; omega))) (And.intro (hSw.cell oafd (NI12.out _ (by show W'.heap.size + 1 < _ ∨ _ ≤ W'.heap.size + 1; have := HZN.out; omega))) (And.intro (hSw.cell obfd (NI12.out _ (by show W'.heap.size + 1 < _ ∨ _ ≤ W'.heap.size + 1; have := HZN.out; omega))) (And.intro (hSw.cell wyd (NI12.out _ (by show w.heap.size + 3 < _ ∨ _; omega))) (hSw.cell ud (NI12.out _ (by show w.heap.size + 6 < _ ∨ _; omega))))))))
   refine tq KK3 1 58 J0 ?_
   try simp only [aS]
   refine tq KK3 2 59 J0 ?_
   try simp only [aS]
   refine tt 3 60 J0 ?_
   try simp only [aS]
   refine tq KK3 4 61 J0 ?_
   try simp only [aS]
   refine tt 5 62 J0 ?_
   try simp only [aS]
   refine tq KK3 6 63 J0 ?_
   try simp only [aS]
   refine tt 7 64 J0 ?_
   try simp only [aS]
   refine tq KK3 8 65 J0 ?_
   try simp only [aS]
   refine oneT (i := 9) (by kernel_rfl) rfl (fun K hK => ?_)
   go_simp
   have hby := bd12.out.trans (GrownL.below J0 (B := w.heap.size) (fun b hb => by have := OWB12.out b (by simpa using hb); omega) bd12.out.size)
   refine (extreme1_any _ _ _ xa _ ((allP ws).map (sgO e)) (so) way x.k0 x.k1 _ ((R2.out).up hby.size hby) (NG2.out.symm) HG12.out (J0.cell wyd (NI12.out _ (by show w.heap.size + 3 < _ ∨ _; omega))) HGB12.out.1 HGB12.out.2 HWAY.out).mono ?_
   rintro e wq ⟨rfl, bq⟩
   have OAX12 := Lib.hid (OAD12.out.below bq)
   have J1 := J0.trans (GrownL.of_below (bs := ((Value.slice A3_ n3_ c3_)).ownBlock.toList) bq)
   clear bq hby
   refine hK.out _ _ J1 ?_
   clear hK K
   try simp only [aS]
   refine oneT (i := 10) (by kernel_rfl) rfl (fun K hK => ?_)
   go_simp
   have J2 : GrownL ((Value.slice A3_ n3_ c3_)).ownBlock.toList Wd12 (wq.alloc (.cells #[.int .i64 (endV so way x.k0 x.k1)] 3)) := J1.trans (GrownL.of_below ((Below.refl _ _).alloc (Nat.le_refl _) _))
   refine hK.out _ _ J2 ?_
   clear hK K
   try simp only [aS]
   refine oneT (i := 11) (by kernel_rfl) rfl (fun K hK => ?_)
   refine step_appA rfl _ _ rfl (w.heap.size + 7) ((Value.slice A3_ n3_ c3_)) (l3) rfl (OAX12.out.below ((Below.refl _ _).alloc (Nat.le_refl _) _)) (by have := HLB12.out; omega) wq.heap.size (endV so way x.k0 x.k1) rfl (by simp [go_sem]) (by have := J1.size; have := GWd12.out.size; have := GLh12.out.gl; simp; omega) (fun v4 w4 ho4 g4 ha4 => ?_)
   have HO12 := Lib.hid ho4
   have HGr12 : Hid (GrownL ((Value.slice A3_ n3_ c3_)).ownBlock.toList W11 w4) := Lib.hid (((GWd12.out.mono (by simp)).trans J2).trans g4)
   have HAt12 : Hid (v4.ownBlock = ((Value.slice A3_ n3_ c3_)).ownBlock ∨ ∃ n, v4.ownBlock = some n ∧ (W11).heap.size ≤ n) := Lib.hid (ha4.imp (fun h => h) (fun ⟨n, e, hn⟩ => ⟨n, e, by have := J1.size; have := GWd12.out.size; simp at hn; omega⟩))
   have y4 : w4.cell? ⟨w.heap.size + 6, 2, none⟩ = some ((Value.slice A3_ n3_ c3_)) := g4.cell (J2.cell ud (NI12.out _ (by show w.heap.size + 6 < _ ∨ _; omega))) (NI12.out _ (by show w.heap.size + 6 < _ ∨ _; omega))
   have z4 : w4.frozen? ⟨w.heap.size + 6, 2, none⟩ = false := (World.frozen?_of_block (a := ⟨w.heap.size + 6, 2, none⟩) ((J2.trans g4).block _ (World.block_lt_of_cell? _ _ ud) (NI12.out _ (by show w.heap.size + 6 < _ ∨ _; omega)))).trans zd
   have J3 := J2.trans g4
   obtain ⟨A412, c412, rfl, -⟩ := ho4.form
   obtain ⟨n412, hl4⟩ : ∃ n412, ((l3) ++ [(endV so way x.k0 x.k1)]).length = n412 := ⟨_, rfl⟩
   rw [hl4] at HO12 HAt12 ⊢
   clear ho4 g4 ha4 hl4
   try go_simp
   refine hK.out _ _ J3 ?_
   clear hK K
   try simp only [aS]
   refine tt 12 69 J3 ?_
   try simp only [aS]
   refine lastT (by kernel_rfl) rfl (fun K hK => ?_)
   go_simp
   refine hK.out _ _ ?_
   clear hK K
   try simp only [aS]
   refine doneTN (by kernel_rfl) ?_ _
   have GX := GLh12.out.app (k := 2) rfl rfl HGr12.out HO12.out HAt12.out
   obtain ⟨W12, hWo⟩ : ∃ Wo, w4.setCell ⟨w.heap.size + 6, 2, none⟩ (.slice A412 n412 c412) = Wo := ⟨_, rfl⟩
   have GG12 : Hid (GrownL ((w.heap.size + 6) :: ((Value.slice A3_ n3_ c3_)).ownBlock.toList) W11 W12) := Lib.hid (by rw [← hWo]; exact (HGr12.out.mono (by simp +contextual)).trans (GrownL.set _ _ _ (by simp)))
   have GN12 : Hid (GL (w.heap.size + 6) (w.heap.size + 7) [.slice A1_ n1_ c1_, (.slice A411 n411 c411), (.slice A412 n412 c412), (Value.slice A5_ n5_ c5_)] [rv, l2 ++ [endV so way lo hi_], (l3) ++ [(endV so way x.k0 x.k1)], l4] W12) := Lib.hid (by rw [← hWo]; exact GX)
   have HWo := hWo
   rw [hWo]
   clear J0 J1 J2 J3 y4 z4 GX hWo HWo wyd ud zd fnfd sgfd pafd oafd obfd
   have MM12 : Hid (∀ k ∈ (w.heap.size + 6) :: (Value.ownBlock (Value.slice A3_ n3_ c3_)).toList, k = w.heap.size + 6 ∨ (Wb.heap.size + 2 ≤ k ∧ k < W'.heap.size)) := Lib.hid fun k hk => by
    rcases List.mem_cons.1 hk with h | h
    ·exact .inl h
    ·exact .inr ⟨OB12.out k (by simpa using h), (OWB12.out k (by simpa using h)).2⟩
   have ES13 := Lib.hid (ES12.out.grown GG12.out (fun k hk => by have := MM12.out k hk; have := HZN.out; have := HZB.out; have := HWB.out; omega))
   have PP13 := Lib.hid (PP12.out.grown GG12.out (fun hm => by have := MM12.out _ hm; have := HZN.out; omega))
   have OO13 := Lib.hid (OO12.out.grown GG12.out (fun hm => by have := MM12.out _ hm; have := HZN.out; omega))
   have IT13 := Lib.hid (GG12.out.cell IT12.out (fun hm => by have h9 := MM12.out _ hm; have := HZB.out; have := HWB.out; simp only at h9; omega))
   have KP13 : Hid (Keeps [Wb.heap.size, Wb.heap.size + 1] W2 W12) := Lib.hid (KP12.out.trans (Keeps.of_grown GG12.out (fun o ho hm => by have := MM12.out o hm; have := HZB.out; have := HWB.out; simp at ho; omega)))
   have NB12 : Hid (∀ b, (Value.slice A412 n412 c412).ownBlock = some b → Wb.heap.size + 2 ≤ b) := Lib.hid fun b hb => by
    rcases HAt12.out with h | ⟨n, h, hn⟩
    ·exact OB12.out b (h ▸ hb)
    ·rw [h] at hb; cases hb; have := HSZ.out; have := SZ12.out; omega
   have GLh13 := GN12
   have SZ13 : Hid (W'.heap.size ≤ W12.heap.size) := Lib.hid (by have := GG12.out.size; have := SZ12.out; omega)
   have fnf := ES13.out.fn
   have sgf := ES13.out.s3
   have paf := PP13.out.at_
   have oaf := OO13.out.s0
   have obf := OO13.out.s1
   simp only at paf
   obtain ⟨Wd13, hWd⟩ : ∃ Wd, World.drew W12 = Wd := ⟨_, rfl⟩
   have gWd : GrownL [] W12 Wd13 := by rw [← hWd]; exact (GrownL.refl _ _).drew
   have HWd := Lib.hid hWd
   have NI13 : Hid (∀ k, k < w.heap.size + 7 ∨ W'.heap.size ≤ k → k ∉ ((Value.slice A5_ n5_ c5_)).ownBlock.toList) := Lib.hid fun k hk hm => by have := OWB13.out k (by simpa using hm); omega
   have fnfd := gWd.cell fnf (by simp)
   have sgfd := gWd.cell sgf (by simp)
   have pafd := gWd.cell paf (by simp)
   have oafd := gWd.cell oaf (by simp)
   have obfd := gWd.cell obf (by simp)
   have wyd := gWd.cell (ES13.out.wy) (by simp)
   have ud := gWd.cell (GLh13.out.c 3 _ rfl) (by simp)
   have zd : Wd13.frozen? ⟨w.heap.size + 6, 3, none⟩ = false := (World.frozen?_of_block (a := ⟨w.heap.size + 6, 3, none⟩) (gWd.block (w.heap.size + 6) GLh13.out.gl (by simp))).trans (GLh13.out.f 3)
   have bd13 : Hid (Below w.heap.size w Wd13) := Lib.hid (ES13.out.bel.trans (gWd.below (by simp) ES13.out.bel.size))
   have OAD13 : Hid (OwnG encI 1 3 (w.heap.size + 7) ((Value.slice A5_ n5_ c5_)) (l4) Wd13) := Lib.hid ((GLh13.out.o 3 _ _ rfl rfl).grown gWd (by simp))
   have GWd13 := Lib.hid gWd
   clear fnf sgf paf oaf obf hWd gWd
   gi_wp2_with fail
   refine wpIn_region_T 13 (open_round _) (S := GrownL ((Value.slice A5_ n5_ c5_)).ownBlock.toList (World.drew W12)) (by kernel_rfl) (by kernel_rfl) (GrownL.refl _ _) (fun J0 => ?_)
   rw [HWd.out] at J0 ⊢
   refine tt 0 70 J0 ?_
   try simp only [aS]
   have KK4 := Lib.hid fun (w_ : World) (hSw : GrownL _ _ w_) => And.intro (hSw.cell fnfd (NI13.out _ (by show w.heap.size + 5 < _ ∨ _ ≤ w.heap.size + 5; have := HZN.out; omega))) (And.intro (hSw.cell sgfd (NI13.out _ (by show w.heap.size + 2 < _ ∨ _ ≤ w.heap.size + 2; have := HZN.out; omega))) (And.intro (hSw.cell pafd (NI13.out _ (by show W'.heap.size < _ ∨ _ ≤ W'.heap.size; have := HZN.out; omega))) (And.intro (hSw.cell oafd (NI13.out _ (by show W'.heap.size + 1 < _ ∨ _ ≤ W'.heap.size + 1; have := HZN.out; omega))) (And.intro (hSw.cell obfd (NI13.out _ (by show W'.heap.size + 1 < _ ∨ _ ≤ W'.heap.size + 1; have := HZN.out; omega))) (And.intro (hSw.cell wyd (NI13.out _ (by show w.heap.size + 3 < _ ∨ _; omega))) (hSw.cell ud (NI13.out _ (by show w.heap.size + 6 < _ ∨ _; omega))))))))
   refine tq KK4 1 71 J0 ?_
   try simp only [aS]
   refine tq KK4 2 72 J0 ?_
   try simp only [aS]
   refine tt 3 73 J0 ?_
   try simp only [aS]
   refine tq KK4 4 74 J0 ?_
   try simp only [aS]
   refine tt 5 75 J0 ?_
   try simp only [aS]
   refine tq KK4 6 76 J0 ?_
   try simp only [aS]
   refine tt 7 77 J0 ?_
   try simp only [aS]
   refine tq KK4 8 78 J0 ?_
   try simp only [aS]
   refine oneT (i := 9) (by kernel_rfl) rfl (fun K hK => ?_)
   go_simp
   have hby := bd13.out.trans (GrownL.below J0 (B := w.heap.size) (fun b hb => by have := OWB13.out b (by simpa using hb); omega) bd13.out.size)
   refine (extreme1_any _ _ _ xa _ ((allP ws).map (sgR e)) (sr) way x.s0 x.s1 _ ((R3.out).up hby.size hby) (NG3.out.symm) HG13.out (J0.cell wyd (NI13.out _ (by show w.heap.size + 3 < _ ∨ _; omega))) HGB13.out.1 HGB13.out.2 HWAY.out).mono ?_
   rintro e wq ⟨rfl, bq⟩
   have OAX13 := Lib.hid (OAD13.out.below bq)
   have J1 := J0.trans (GrownL.of_below (bs := ((Value.slice A5_ n5_ c5_)).ownBlock.toList) bq)
   clear bq hby
   refine hK.out _ _ J1 ?_
   clear hK K
   try simp only [aS]
   refine oneT (i := 10) (by kernel_rfl) rfl (fun K hK => ?_)
   go_simp
   have J2 : GrownL ((Value.slice A5_ n5_ c5_)).ownBlock.toList Wd13 (wq.alloc (.cells #[.int .i64 (endV sr way x.s0 x.s1)] 3)) := J1.trans (GrownL.of_below ((Below.refl _ _).alloc (Nat.le_refl _) _))
   refine hK.out _ _ J2 ?_
   clear hK K
   try simp only [aS]
   refine oneT (i := 11) (by kernel_rfl) rfl (fun K hK => ?_)
   refine step_appA rfl _ _ rfl (w.heap.size + 7) ((Value.slice A5_ n5_ c5_)) (l4) rfl (OAX13.out.below ((Below.refl _ _).alloc (Nat.le_refl _) _)) (by have := HLB13.out; omega) wq.heap.size (endV sr way x.s0 x.s1) rfl (by simp [go_sem]) (by have := J1.size; have := GWd13.out.size; have := GLh13.out.gl; simp; omega) (fun v4 w4 ho4 g4 ha4 => ?_)
   have HO13 := Lib.hid ho4
   have HGr13 : Hid (GrownL ((Value.slice A5_ n5_ c5_)).ownBlock.toList W12 w4) := Lib.hid (((GWd13.out.mono (by simp)).trans J2).trans g4)
   have HAt13 : Hid (v4.ownBlock = ((Value.slice A5_ n5_ c5_)).ownBlock ∨ ∃ n, v4.ownBlock = some n ∧ (W12).heap.size ≤ n) := Lib.hid (ha4.imp (fun h => h) (fun ⟨n, e, hn⟩ => ⟨n, e, by have := J1.size; have := GWd13.out.size; simp at hn; omega⟩))
   have y4 : w4.cell? ⟨w.heap.size + 6, 3, none⟩ = some ((Value.slice A5_ n5_ c5_)) := g4.cell (J2.cell ud (NI13.out _ (by show w.heap.size + 6 < _ ∨ _; omega))) (NI13.out _ (by show w.heap.size + 6 < _ ∨ _; omega))
   have z4 : w4.frozen? ⟨w.heap.size + 6, 3, none⟩ = false := (World.frozen?_of_block (a := ⟨w.heap.size + 6, 3, none⟩) ((J2.trans g4).block _ (World.block_lt_of_cell? _ _ ud) (NI13.out _ (by show w.heap.size + 6 < _ ∨ _; omega)))).trans zd
   have J3 := J2.trans g4
   obtain ⟨A413, c413, rfl, -⟩ := ho4.form
   obtain ⟨n413, hl4⟩ : ∃ n413, ((l4) ++ [(endV sr way x.s0 x.s1)]).length = n413 := ⟨_, rfl⟩
   rw [hl4] at HO13 HAt13 ⊢
   clear ho4 g4 ha4 hl4
   try go_simp
   refine hK.out _ _ J3 ?_
   clear hK K
   try simp only [aS]
   refine tt 12 82 J3 ?_
   try simp only [aS]
   refine lastT (by kernel_rfl) rfl (fun K hK => ?_)
   go_simp
   refine hK.out _ _ ?_
   clear hK K
   try simp only [aS]
   refine doneTN (by kernel_rfl) ?_ _
   have GX := GLh13.out.app (k := 3) rfl rfl HGr13.out HO13.out HAt13.out
   obtain ⟨W13, hWo⟩ : ∃ Wo, w4.setCell ⟨w.heap.size + 6, 3, none⟩ (.slice A413 n413 c413) = Wo := ⟨_, rfl⟩
   have GG13 : Hid (GrownL ((w.heap.size + 6) :: ((Value.slice A5_ n5_ c5_)).ownBlock.toList) W12 W13) := Lib.hid (by rw [← hWo]; exact (HGr13.out.mono (by simp +contextual)).trans (GrownL.set _ _ _ (by simp)))
   have GN13 : Hid (GL (w.heap.size + 6) (w.heap.size + 7) [.slice A1_ n1_ c1_, (.slice A411 n411 c411), (.slice A412 n412 c412), (.slice A413 n413 c413)] [rv, l2 ++ [endV so way lo hi_], l3 ++ [endV so way x.k0 x.k1], (l4) ++ [(endV sr way x.s0 x.s1)]] W13) := Lib.hid (by rw [← hWo]; exact GX)
   have HWo := hWo
   rw [hWo]
   clear J0 J1 J2 J3 y4 z4 GX hWo HWo wyd ud zd fnfd sgfd pafd oafd obfd
   have MM13 : Hid (∀ k ∈ (w.heap.size + 6) :: (Value.ownBlock (Value.slice A5_ n5_ c5_)).toList, k = w.heap.size + 6 ∨ (Wb.heap.size + 2 ≤ k ∧ k < W'.heap.size)) := Lib.hid fun k hk => by
    rcases List.mem_cons.1 hk with h | h
    ·exact .inl h
    ·exact .inr ⟨OB13.out k (by simpa using h), (OWB13.out k (by simpa using h)).2⟩
   have ES14 := Lib.hid (ES13.out.grown GG13.out (fun k hk => by have := MM13.out k hk; have := HZN.out; have := HZB.out; have := HWB.out; omega))
   have PP14 := Lib.hid (PP13.out.grown GG13.out (fun hm => by have := MM13.out _ hm; have := HZN.out; omega))
   have OO14 := Lib.hid (OO13.out.grown GG13.out (fun hm => by have := MM13.out _ hm; have := HZN.out; omega))
   have IT14 := Lib.hid (GG13.out.cell IT13.out (fun hm => by have h9 := MM13.out _ hm; have := HZB.out; have := HWB.out; simp only at h9; omega))
   have KP14 : Hid (Keeps [Wb.heap.size, Wb.heap.size + 1] W2 W13) := Lib.hid (KP13.out.trans (Keeps.of_grown GG13.out (fun o ho hm => by have := MM13.out o hm; have := HZB.out; have := HWB.out; simp at ho; omega)))
   have NB13 : Hid (∀ b, (Value.slice A413 n413 c413).ownBlock = some b → Wb.heap.size + 2 ≤ b) := Lib.hid fun b hb => by
    rcases HAt13.out with h | ⟨n, h, hn⟩
    ·exact OB13.out b (h ▸ hb)
    ·rw [h] at hb; cases hb; have := HSZ.out; have := SZ13.out; omega
   have GLh14 := GN13
   have SZ14 : Hid (W'.heap.size ≤ W13.heap.size) := Lib.hid (by have := GG13.out.size; have := SZ13.out; omega)
   exact ⟨KP14.out, ES14.out, ⟨_, _, _, by rw [HNL.out.1, HNL.out.2.1, HNL.out.2.2]; exact GLh14.out, NB11.out, NB12.out, NB13.out⟩, IT14.out⟩
end Go.Proofs.Ytkoacclbempmdaa
