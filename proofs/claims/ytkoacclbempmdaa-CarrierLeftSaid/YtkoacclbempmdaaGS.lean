/- Parts of what flows, as values; contracts of CheckWater, Flow, Tails, Lost. -/
import Derived.Test.YtkoacclbempmdaaOO9
namespace Go.Proofs.Ytkoacclbempmdaa
open Go.RowKit

/-- What runs through, as values. -/
def thrL (f : FS) : List Value := (List.range 60).map (fun i => .int .i64 (f.thr.getD i 0))
theorem fsL_thrL (f : FS) : (fsL f).take 60 = thrL f := by
 unfold fsL
 rw [List.take_append_of_le_length (by simp), List.take_of_length_le (by simp)]
 rfl
theorem fs_lost (f : FS) (w : World) : (Instr.field 123 (.agg (fsL f).toArray) 2).run Try.prog w = .ok (.int .i64 f.lost) w := by
 have h : (fsL f).toArray[76]? = some (.int .i64 f.lost) := by rw [List.getElem?_toArray]; exact fsL_lost f
 unfold Instr.field
 simp [run_underlying Try.underlying123, asAgg, part, isAgg, run_underlying Try.underlying3, fsL_lost f]
theorem fs_thr (f : FS) (w : World) : (Instr.field 123 (.agg (fsL f).toArray) 0).run Try.prog w = .ok (.agg (thrL f).toArray) w := by
 have hs : (sizeOf 120).run Try.prog w = .ok 60 w := by kernel_rfl
 unfold Instr.field
 simp [run_underlying Try.underlying123, asAgg, part, isAgg, hs]
 exact fsL_thrL f
theorem fs_at (f : FS) (i : Nat) (hi : i < 60) (w : World) : (Instr.index 120 (.agg (thrL f).toArray) (.int .i64 i)).run Try.prog w = .ok (.int .i64 (f.thr.getD i 0)) w := by
 have hs : (sizeOf 3).run Try.prog w = .ok 1 w := by kernel_rfl
 have h0 : (i : Int) < 60 := by omega
 have hg : (thrL f).toArray[i]? = some (.int .i64 (f.thr.getD i 0)) := by
  rw [List.getElem?_toArray]
  unfold thrL
  rw [List.getElem?_map, List.getElem?_range hi]
  rfl
 unfold Instr.index
 simp only [asIntOf, Sem.run_bind, Sem.run_pure, Result.andThen_ok, run_underlying Try.underlying120]
 rw [if_pos ⟨by omega, h0⟩]
 simp only [Sem.run_bind, hs, Result.andThen_ok, part, isAgg, run_underlying Try.underlying3, Sem.run_pure]
 simp [hg]

/-- A variable that holds what flows. -/
theorem stream_box (F : FS) (w2 : World) : ∃ W5, (storeCells ⟨w2.heap.size, 0, none⟩ (fsL F)).run Try.prog (w2.alloc (.cells Try.zeroCells123 123)) = .ok () W5 ∧ FsA w2.heap.size F W5 ∧ Below w2.heap.size w2 W5 := by
 have z := FsA.zero (W := w2) (g := w2.heap.size) rfl
 obtain ⟨W, hW⟩ : ∃ W, w2.alloc (.cells Try.zeroCells123 123) = W := ⟨_, rfl⟩
 have hb : Below w2.heap.size w2 W := by rw [← hW]; exact (Below.refl _ _).alloc (Nat.le_refl _) _
 rw [hW] at z ⊢
 have rsc := run_storeCells_cells (P := Try.prog) w2.heap.size 0 (fsL F) 0 W (fun j hj => by simpa using (z.there j (by rw [fsL_len] at hj; exact hj)).1) (fun j hj => by simpa using (z.there j (by rw [fsL_len] at hj; exact hj)).2) (fsL_one F)
 have hr := World.rangeAt_setCells_same W w2.heap.size 0 (fsL F) (by rw [fsL_len]; exact z.there)
 have g5 : GrownL [w2.heap.size] W (W.setCells w2.heap.size 0 (fsL F)) := GrownL.setCells _ _ _ _ _ (by simp)
 refine ⟨_, by simpa using rsc, ⟨fun i hi => ?_, fun c hc => ?_, ?_, fun i => ?_⟩, hb.trans (g5.below (by simp) hb.size)⟩
 ·have := hr i _ (fsL_thr F hi); rwa [Nat.zero_add] at this
 ·have := hr (60 + c) _ (fsL_t F hc); rwa [Nat.zero_add] at this
 ·have := hr 76 _ (fsL_lost F); rwa [Nat.zero_add] at this
 ·rw [World.frozen?_setCells]
  exact z.fz i
/-- A part of a block that reads as a list of numbers. -/
theorem rr_of_cells {W : World} {b o n : Nat} {l : List Int} (hl : l.length = n) (hn : Fits n) (hb : b < W.heap.size) (h : ∀ (i : Nat) x, l[i]? = some x → W.cell? ⟨b, o + i, none⟩ = some (.int .i64 x)) (c : Nat) : RR encI W.heap.size (.slice (some ⟨b, o, none⟩) n c) l W := by
 refine ⟨_, c, by rw [hl], by rw [hl]; exact hn, fun _ => ⟨b, o, rfl, hb, fun j u hj => ?_⟩⟩
 obtain ⟨k, i, x, hk, hi, rfl, hu⟩ := EI.inv hj
 obtain rfl : i = 0 := by omega
 cases hu
 rw [Nat.mul_one, Nat.add_zero]
 exact h k x hk
def thrI (f : FS) : List Int := (List.range 60).map fun i => f.thr.getD i 0
def tI (f : FS) : List Int := (List.range 16).map f.t
theorem FsA.rrThr {g : Nat} {f : FS} {W : World} (h : FsA g f W) : RR encI W.heap.size (.slice (some ⟨g, 0, none⟩) 60 60) (thrI f) W :=
 rr_of_cells (by simp [thrI]) (by decide) h.lt (fun i x hx => by
  have hi : i < 60 := by simpa [thrI] using (List.getElem?_eq_some_iff.1 hx).1
  unfold thrI at hx
  rw [List.getElem?_map, List.getElem?_range hi] at hx
  cases hx
  rw [Nat.zero_add]
  exact h.thr i hi) 60
theorem FsA.rrT {g : Nat} {f : FS} {W : World} (h : FsA g f W) : RR encI W.heap.size (.slice (some ⟨g, 60, none⟩) 16 16) (tI f) W :=
 rr_of_cells (by simp [tI]) (by decide) h.lt (fun i x hx => by
  have hi : i < 16 := by simpa [tI] using (List.getElem?_eq_some_iff.1 hx).1
  unfold tI at hx
  rw [List.getElem?_map, List.getElem?_range hi] at hx
  cases hx
  exact h.t i hi) 16
theorem thrI_take (f : FS) (n : Nat) (hl : f.thr.length = n) (hn : n ≤ 60) : (thrI f).take n = f.thr := by
 refine List.ext_getElem? fun i => ?_
 unfold thrI
 rw [List.getElem?_take]
 split
 ·rw [List.getElem?_map, List.getElem?_range (by omega)]
  show some (f.thr.getD i 0) = _
  rw [List.getD_eq_getElem?_getD, List.getElem?_eq_getElem (by omega)]
  rfl
 ·rw [List.getElem?_eq_none (by omega)]
theorem tI_take (f : FS) (n : Nat) (hn : n ≤ 16) : (tI f).take n = (List.range n).map f.t := by
 unfold tI
 rw [← List.map_take, List.take_range, Nat.min_eq_left hn]

/-- What CheckWater says. -/
def WatIs (ws : Wk) (s : Wa) (d : Int) : Prop := (CheckIs ws d ∧ d ≠ 0) ∨ (CheckIs ws 0 ∧ ¬ WaOk ws s ∧ d = 1) ∨ (CheckIs ws 0 ∧ WaOk ws s ∧ d = 0)
theorem WatIs.exists_ (ws : Wk) (s : Wa) : ∃ d, WatIs ws s d := by
 obtain ⟨d, hd⟩ := CheckIs.exists_ ws
 by_cases h : d = 0
 ·subst h
  by_cases h2 : WaOk ws s
  ·exact ⟨0, .inr (.inr ⟨hd, h2, rfl⟩)⟩
  ·exact ⟨1, .inr (.inl ⟨hd, h2, rfl⟩)⟩
 ·exact ⟨d, .inl ⟨hd, h⟩⟩
theorem WatIs.ok {ws : Wk} {s : Wa} (h : WatIs ws s 0) : WOk ws ∧ WaOk ws s := by
 rcases h with ⟨_, h⟩ | ⟨_, _, h⟩ | ⟨h1, h2, _⟩
 ·exact absurd rfl h
 ·omega
 ·exact ⟨h1.ok, h2⟩
/-- Works and water in the function's first two blocks. -/
structure WW (w : World) (v a b c d : Value) (W : World) : Prop where
 wk : W.cell? ⟨w.heap.size, 0, none⟩ = some v
 r : W.cell? ⟨w.heap.size + 1, 0, none⟩ = some a
 b : W.cell? ⟨w.heap.size + 1, 1, none⟩ = some b
 k : W.cell? ⟨w.heap.size + 1, 2, none⟩ = some c
 l : W.cell? ⟨w.heap.size + 1, 3, none⟩ = some d
 bel : Below w.heap.size w W
theorem WW.new (w : World) (v a b c d : Value) : WW w v a b c d ((w.alloc (.cells #[v] 24)).alloc (.cells #[a, b, c, d] 27)) := ⟨by simp [go_sem], by simp [go_sem], by simp [go_sem], by simp [go_sem], by simp [go_sem], ((Below.refl _ _).alloc (Nat.le_refl _) _).alloc (by simp) _⟩
theorem WW.siz {w W : World} {v a b c d : Value} (h : WW w v a b c d W) : w.heap.size + 2 ≤ W.heap.size := World.block_lt_of_cell? _ _ h.r
theorem WW.s0 {w W : World} {v a b c d : Value} (h : WW w v a b c d W) : w.heap.size ≤ W.heap.size := h.bel.size
theorem WW.below {w W W' : World} {v a b c d : Value} (h : WW w v a b c d W) (hb : Below W.heap.size W W') : WW w v a b c d W' :=
 ⟨BelS.c hb h.wk, BelS.c hb h.r, BelS.c hb h.b, BelS.c hb h.k, BelS.c hb h.l, h.bel.trans (hb.mono h.s0)⟩

set_option maxHeartbeats 8000000 in
set_option maxRecDepth 1000000 in
theorem CheckWater_any (v wv : Value) (ws : Wk) (s : Wa) (d : Int) (w : World) (h : RK w.heap.size v ws w) (ht : total ws ≤ 1000000) (hs : RWa w.heap.size wv s w) (hd : WatIs ws s d) :
  Calls Try.prog 32 #[.agg #[v], wv] w fun e w' => e = .returned (.int .i64 d) ∧ Below w.heap.size w w' := by
 obtain ⟨A, c, rfl, -⟩ := (show ∃ A c, v = .slice A ws.length c ∧ True by obtain ⟨A, c, e, _⟩ := h; exact ⟨A, c, e, trivial⟩)
 obtain ⟨A1, c1, A2, c2, A3, c3, A4, c4, rfl⟩ := hs.form
 have C1 := Lib.hid fun (d : Int) (hc : CheckIs ws d) W (hb : Below w.heap.size w W) => check_any (.slice A ws.length c) ws d W (h.up hb.size hb) ht hc
 have C2 := Lib.hid fun (hw : WOk ws) (bb : Bool) (hbb : bb = true ↔ WaOk ws s) W (hb : Below w.heap.size w W) => isWater_any A c _ ws s bb W (h.up hb.size hb) (hs.up hb.size hb) hw hbb
 have S0 := Lib.hid (WW.new w (.slice A ws.length c) (.slice A1 s.river.length c1) (.slice A2 s.boards.length c2) (.slice A3 s.leaks.length c3) (.slice A4 s.losses.length c4))
 clear h hs
 rcases hd with ⟨hc, hd⟩ | ⟨hc, hn, rfl⟩ | ⟨hc, hn, rfl⟩
 ·have HC := Lib.hid hc
  have hdb : (d != 0) = true := by rw [bne_iff_ne]; exact hd
  clear hc hd
  go_enter Try.func32, Try.ntmps32
  go_wp2_with fail
  refine (C1.out d HC.out _ S0.out.bel).mono ?_
  rintro e w1 ⟨rfl, b1⟩
  have S := Lib.hid (S0.out.below b1)
  clear b1
  go_wp2_with fail
  go_ret
  exact ⟨rfl, S.out.bel⟩
 ·have HC := Lib.hid hc
  have HN := Lib.hid hn
  clear hc hn
  go_enter Try.func32, Try.ntmps32
  go_wp2_with fail
  refine (C1.out 0 HC.out _ S0.out.bel).mono ?_
  rintro e w1 ⟨rfl, b1⟩
  have S := Lib.hid (S0.out.below b1)
  clear b1
  have x0 := S.out.wk
  have x1 := S.out.r
  have x2 := S.out.b
  have x3 := S.out.k
  have x4 := S.out.l
  go_wp2_with fail
  refine (C2.out HC.out.ok false (by simp [HN.out]) _ S.out.bel).mono ?_
  rintro e w2 ⟨rfl, b2⟩
  have S2 := Lib.hid (S.out.below b2)
  clear b2 x0 x1 x2 x3 x4
  go_wp2_with fail
  go_ret
  exact ⟨rfl, S2.out.bel⟩
 ·have HC := Lib.hid hc
  have HN := Lib.hid hn
  clear hc hn
  go_enter Try.func32, Try.ntmps32
  go_wp2_with fail
  refine (C1.out 0 HC.out _ S0.out.bel).mono ?_
  rintro e w1 ⟨rfl, b1⟩
  have S := Lib.hid (S0.out.below b1)
  clear b1
  have x0 := S.out.wk
  have x1 := S.out.r
  have x2 := S.out.b
  have x3 := S.out.k
  have x4 := S.out.l
  go_wp2_with fail
  refine (C2.out HC.out.ok true (by simp [HN.out]) _ S.out.bel).mono ?_
  rintro e w2 ⟨rfl, b2⟩
  have S2 := Lib.hid (S.out.below b2)
  clear b2 x0 x1 x2 x3 x4
  go_wp2_with fail
  go_ret
  exact ⟨rfl, S2.out.bel⟩
end Go.Proofs.Ytkoacclbempmdaa

/- Contracts of Flow, Tails, Lost. -/
namespace Go.Proofs.Ytkoacclbempmdaa
open Go.RowKit

/-- A number, where there is no error. -/
def okN (d n : Int) : Int := if d = 0 then n else 0
theorem okN_zero (n : Int) : okN 0 n = n := rfl
theorem okN_ne {d : Int} (h : d ≠ 0) (n : Int) : okN d n = 0 := if_neg h
set_option maxHeartbeats 8000000 in
set_option maxRecDepth 1000000 in
theorem Lost_any (v wv : Value) (ws : Wk) (s : Wa) (d : Int) (w : World) (h : RK w.heap.size v ws w) (ht : total ws ≤ 1000000) (hs : RWa w.heap.size wv s w) (hd : WatIs ws s d) :
  Calls Try.prog 23 #[.agg #[v], wv] w fun e w' => e = .returned (.tuple #[.int .i64 (okN d (flowF ws s).lost), .int .i64 d]) ∧ Below w.heap.size w w' := by
 obtain ⟨A, c, rfl, -⟩ := (show ∃ A c, v = .slice A ws.length c ∧ True by obtain ⟨A, c, e, _⟩ := h; exact ⟨A, c, e, trivial⟩)
 obtain ⟨A1, c1, A2, c2, A3, c3, A4, c4, rfl⟩ := hs.form
 have C1 := Lib.hid fun W (hb : Below w.heap.size w W) => CheckWater_any (.slice A ws.length c) _ ws s d W (h.up hb.size hb) ht (hs.up hb.size hb) hd
 have C2 := Lib.hid fun (hw : WOk ws) (ho : WaOk ws s) W (hb : Below w.heap.size w W) => run_any A c _ ws s W (h.up hb.size hb) (hs.up hb.size hb) hw ho
 have C3 := Lib.hid fun W (hb : Below w.heap.size w W) => count_any A ws.length c ws W (h.up hb.size hb) (by omega)
 have S0 := Lib.hid (WW.new w (.slice A ws.length c) (.slice A1 s.river.length c1) (.slice A2 s.boards.length c2) (.slice A3 s.leaks.length c3) (.slice A4 s.losses.length c4))
 have HD := Lib.hid hd
 clear h hs hd
 go_enter Try.func23, Try.ntmps23
 go_wp2_with fail
 refine (C1.out _ S0.out.bel).mono ?_
 rintro e w1 ⟨rfl, b1⟩
 have S := Lib.hid (S0.out.below b1)
 clear b1
 by_cases h0 : d = 0
 ·subst h0
  obtain ⟨hw, ho⟩ := HD.out.ok
  have HW := Lib.hid hw
  have HO := Lib.hid ho
  clear hw ho
  have x0 := S.out.wk
  have x1 := S.out.r
  have x2 := S.out.b
  have x3 := S.out.k
  have x4 := S.out.l
  go_wp2_with fail
  refine (C2.out HW.out HO.out _ S.out.bel).mono ?_
  rintro e w2 ⟨rfl, b2⟩
  have S2 := Lib.hid (S.out.below b2)
  clear b2 x0 x1 x2 x3 x4
  obtain ⟨F, hF⟩ : ∃ F, flowF ws s = F := ⟨_, rfl⟩
  have HF := Lib.hid hF
  clear hF
  have fl := fs_lost F
  rw [HF.out]
  go_wp2_with fail
  refine bodyPost_ret (results_tmp2 rfl _ _ _) rfl ?_
  exact ⟨by show Ending.returned (.tuple #[.int .i64 F.lost, .int .i64 0]) = _; rw [okN_zero, HF.out], S2.out.bel⟩
 ·have hdb : (d != 0) = true := by rw [bne_iff_ne]; exact h0
  have H0 := Lib.hid h0
  clear h0
  go_wp2_with fail
  refine bodyPost_ret (results_tmp2 rfl _ _ _) rfl ?_
  exact ⟨by show Ending.returned (.tuple #[.int .i64 0, .int .i64 d]) = _; rw [okN_ne H0.out], S.out.bel⟩

set_option maxHeartbeats 8000000 in
set_option maxRecDepth 1000000 in
theorem Flow_any (v wv : Value) (ws : Wk) (s : Wa) (d : Int) (w : World) (h : RK w.heap.size v ws w) (ht : total ws ≤ 1000000) (hs : RWa w.heap.size wv s w) (hd : WatIs ws s d) :
  Calls Try.prog 21 #[.agg #[v], wv] w fun e w' => ∃ u, e = .returned (.tuple #[u, .int .i64 d]) ∧ OwnG encI 1 3 w.heap.size u (okL d (flowF ws s).thr) w' ∧ Below w.heap.size w w' := by
 obtain ⟨A, c, rfl, -⟩ := (show ∃ A c, v = .slice A ws.length c ∧ True by obtain ⟨A, c, e, _⟩ := h; exact ⟨A, c, e, trivial⟩)
 obtain ⟨A1, c1, A2, c2, A3, c3, A4, c4, rfl⟩ := hs.form
 have C1 := Lib.hid fun W (hb : Below w.heap.size w W) => CheckWater_any (.slice A ws.length c) _ ws s d W (h.up hb.size hb) ht (hs.up hb.size hb) hd
 have C2 := Lib.hid fun (hw : WOk ws) (ho : WaOk ws s) W (hb : Below w.heap.size w W) => run_any A c _ ws s W (h.up hb.size hb) (hs.up hb.size hb) hw ho
 have C3 := Lib.hid fun W (hb : Below w.heap.size w W) => count_any A ws.length c ws W (h.up hb.size hb) (by omega)
 have S0 := Lib.hid (WW.new w (.slice A ws.length c) (.slice A1 s.river.length c1) (.slice A2 s.boards.length c2) (.slice A3 s.leaks.length c3) (.slice A4 s.losses.length c4))
 have HD := Lib.hid hd
 clear h hs hd
 go_enter Try.func21, Try.ntmps21
 go_wp2_with fail
 refine (C1.out _ S0.out.bel).mono ?_
 rintro e w1 ⟨rfl, b1⟩
 have S := Lib.hid (S0.out.below b1)
 clear b1
 by_cases h0 : d = 0
 ·subst h0
  obtain ⟨hw, ho⟩ := HD.out.ok
  have HW := Lib.hid hw
  have HO := Lib.hid ho
  clear hw ho
  have x0 := S.out.wk
  have x1 := S.out.r
  have x2 := S.out.b
  have x3 := S.out.k
  have x4 := S.out.l
  go_wp2_with fail
  refine (C2.out HW.out HO.out _ S.out.bel).mono ?_
  rintro e w2 ⟨rfl, b2⟩
  have S2 := Lib.hid (S.out.below b2)
  clear b2 x0 x1 x2 x3 x4
  obtain ⟨F, hF⟩ : ∃ F, flowF ws s = F := ⟨_, rfl⟩
  have HF := Lib.hid hF
  rw [hF]
  clear hF
  obtain ⟨W5, r5, f5, b5⟩ := stream_box F w2
  have R5 := Lib.hid r5
  have F5 := Lib.hid f5
  have S5 := Lib.hid (S2.out.below b5)
  have hln := fsL_len F
  clear r5 f5 b5
  go_wp2_with fail
  rw [R5.out]
  have x0 := S5.out.wk
  go_wp2_with fail
  refine wp_region_held_drew  (S := BelS W5) (by kernel_rfl) (BelS.drew0 _) (fun J0 => ?_)
  refine tw 0 17 J0 ?_ (hy := by intro w' hSw; have q0 := hSw.c x0; go_simp; try with_reducible rfl)
  try simp only [aS]
  refine tw 1 18 J0 ?_ (hy := by intro w' hSw; have q0 := hSw.c x0; go_simp; try with_reducible rfl)
  try simp only [aS]
  refine tw 2 19 J0 ?_ (hy := by intro w' hSw; have q0 := hSw.c x0; go_simp; try with_reducible rfl)
  try simp only [aS]
  refine wpAnyH_ready (rs := [3]) (by kernel_rfl) (by simp) ?_
  refine AllReadyH.cons rfl (fun K hK => ?_) AllReadyH.nil
  go_simp
  refine (C3.out _ (S5.out.bel.trans (BelS.b J0 |>.mono S5.out.s0))).mono ?_
  rintro e wq1 ⟨rfl, hq1⟩
  have J01 := J0.below hq1
  clear hq1
  refine hK.out _ _ J01 (fun _ => ?_)
  clear hK
  try simp only [aS]
  refine wpAnyH_ready (rs := [4]) (by kernel_rfl) (by simp) ?_
  refine AllReadyH.cons rfl (fun K hK => ?_) AllReadyH.nil
  go_simp
  refine (cutI_any _ 60 (total ws) (thrI F) _ (by rw [show (thrI F).length = 60 by simp [thrI]]; exact (F5.out.grown (GrownL.of_below (bs := []) (BelS.b J01)) (by simp)).rrThr) (by have := HW.out.tot; simp [thrI]; omega) (by simp [thrI]) (by have := HW.out.tot; omega)).mono ?_
  rintro e wq2 ⟨u, rfl, hu, hq2⟩
  have J02 := J01.below hq2
  have HU : Hid (OwnG encI 1 3 w.heap.size u (flowF ws s).thr wq2) := Lib.hid (by rw [HF.out, ← thrI_take F (total ws) (by rw [← HF.out]; exact thr_len ws s _ (Nat.le_refl _)) HW.out.tot]; exact hu.low (by have := BelS.b J01 |>.size; have := S5.out.s0; omega))
  have hlen : ((thrI F).take (total ws)).length = total ws := by have := HW.out.tot; simp [thrI]; omega
  obtain ⟨Au, cu, rfl, -⟩ := hu.form
  rw [hlen] at HU ⊢
  clear hu hlen
  clear hq2
  refine hK.out _ _ J02 (fun _ => ?_)
  clear hK
  try simp only [aS]
  refine tw 5 4 J02 ?_ (hy := by intro w' hSw; have q0 := hSw.c x0; go_simp; try with_reducible rfl)
  try simp only [aS]
  refine tw 6 5 J02 ?_ (hy := by intro w' hSw; have q0 := hSw.c x0; go_simp; try with_reducible rfl)
  try simp only [aS]
  refine wpAnyH_done (by kernel_rfl) ?_ _
  have BE := Lib.hid (S5.out.bel.trans ((BelS.b J02).mono S5.out.s0))
  clear J0 J01 J02 x0
  go_wp2_with fail
  refine bodyPost_ret (results_tmp2 rfl _ _ _) rfl ?_
  exact ⟨_, rfl, by rw [okL_zero]; exact HU.out, BE.out⟩
 ·have hdb : (d != 0) = true := by rw [bne_iff_ne]; exact h0
  have H0 := Lib.hid h0
  clear h0
  go_wp2_with fail
  refine bodyPost_ret (results_tmp2 rfl _ _ _) rfl ?_
  exact ⟨_, rfl, by rw [okL_ne H0.out]; exact OwnG.nil _ _ _ _ _, S.out.bel⟩

set_option maxHeartbeats 8000000 in
set_option maxRecDepth 1000000 in
theorem Tails_any (v wv : Value) (ws : Wk) (s : Wa) (d : Int) (w : World) (h : RK w.heap.size v ws w) (ht : total ws ≤ 1000000) (hs : RWa w.heap.size wv s w) (hd : WatIs ws s d) :
  Calls Try.prog 22 #[.agg #[v], wv] w fun e w' => ∃ u, e = .returned (.tuple #[u, .int .i64 d]) ∧ OwnG encI 1 3 w.heap.size u (okL d (tailsL ws s)) w' ∧ Below w.heap.size w w' := by
 obtain ⟨A, c, rfl, -⟩ := (show ∃ A c, v = .slice A ws.length c ∧ True by obtain ⟨A, c, e, _⟩ := h; exact ⟨A, c, e, trivial⟩)
 obtain ⟨A1, c1, A2, c2, A3, c3, A4, c4, rfl⟩ := hs.form
 have C1 := Lib.hid fun W (hb : Below w.heap.size w W) => CheckWater_any (.slice A ws.length c) _ ws s d W (h.up hb.size hb) ht (hs.up hb.size hb) hd
 have C2 := Lib.hid fun (hw : WOk ws) (ho : WaOk ws s) W (hb : Below w.heap.size w W) => run_any A c _ ws s W (h.up hb.size hb) (hs.up hb.size hb) hw ho
 have C3 := Lib.hid fun W (hb : Below w.heap.size w W) => count_any A ws.length c ws W (h.up hb.size hb) (by omega)
 have S0 := Lib.hid (WW.new w (.slice A ws.length c) (.slice A1 s.river.length c1) (.slice A2 s.boards.length c2) (.slice A3 s.leaks.length c3) (.slice A4 s.losses.length c4))
 have HD := Lib.hid hd
 clear h hs hd
 go_enter Try.func22, Try.ntmps22
 go_wp2_with fail
 refine (C1.out _ S0.out.bel).mono ?_
 rintro e w1 ⟨rfl, b1⟩
 have S := Lib.hid (S0.out.below b1)
 clear b1
 by_cases h0 : d = 0
 ·subst h0
  obtain ⟨hw, ho⟩ := HD.out.ok
  have HW := Lib.hid hw
  have HO := Lib.hid ho
  clear hw ho
  have x0 := S.out.wk
  have x1 := S.out.r
  have x2 := S.out.b
  have x3 := S.out.k
  have x4 := S.out.l
  go_wp2_with fail
  refine (C2.out HW.out HO.out _ S.out.bel).mono ?_
  rintro e w2 ⟨rfl, b2⟩
  have S2 := Lib.hid (S.out.below b2)
  clear b2 x0 x1 x2 x3 x4
  obtain ⟨F, hF⟩ : ∃ F, flowF ws s = F := ⟨_, rfl⟩
  have HF := Lib.hid hF
  rw [hF]
  clear hF
  obtain ⟨W5, r5, f5, b5⟩ := stream_box F w2
  have R5 := Lib.hid r5
  have F5 := Lib.hid f5
  have S5 := Lib.hid (S2.out.below b5)
  have hln := fsL_len F
  clear r5 f5 b5
  go_wp2_with fail
  rw [R5.out]
  have x0 := S5.out.wk
  go_wp2_with fail
  refine wp_region_held_drew  (S := BelS W5) (by kernel_rfl) (BelS.drew0 _) (fun J0 => ?_)
  refine tw 0 17 J0 ?_ (hy := by intro w' hSw; have q0 := hSw.c x0; go_simp; try with_reducible rfl)
  try simp only [aS]
  refine tw 1 18 J0 ?_ (hy := by intro w' hSw; have q0 := hSw.c x0; go_simp; try with_reducible rfl)
  try simp only [aS]
  refine tw 2 19 J0 ?_ (hy := by intro w' hSw; have q0 := hSw.c x0; go_simp; try with_reducible rfl)
  try simp only [aS]
  refine tw 3 20 J0 ?_ (hy := by intro w' hSw; have q0 := hSw.c x0; go_simp; try with_reducible rfl)
  try simp only [aS]
  refine tw 4 21 J0 ?_ (hy := by intro w' hSw; have q0 := hSw.c x0; go_simp; try with_reducible rfl)
  try simp only [aS]
  refine wpAnyH_ready (rs := [5]) (by kernel_rfl) (by simp) ?_
  refine AllReadyH.cons rfl (fun K hK => ?_) AllReadyH.nil
  go_simp
  refine (cutI_any _ 16 ws.length (tI F) _ (by rw [show (tI F).length = 16 by simp [tI]]; exact (F5.out.grown (GrownL.of_below (bs := []) (BelS.b J0)) (by simp)).rrT) (by have := HW.out.len; simp [tI]; omega) (by simp [tI]) (by have := HW.out.len; omega)).mono ?_
  rintro e wq1 ⟨u, rfl, hu, hq1⟩
  have J01 := J0.below hq1
  have HU : Hid (OwnG encI 1 3 w.heap.size u (tailsL ws s) wq1) := Lib.hid (by unfold tailsL; rw [HF.out, ← tI_take F ws.length HW.out.len]; exact hu.low (by have := BelS.b J0 |>.size; have := S5.out.s0; omega))
  have hlen : ((tI F).take ws.length).length = ws.length := by have := HW.out.len; simp [tI]; omega
  obtain ⟨Au, cu, rfl, -⟩ := hu.form
  rw [hlen] at HU ⊢
  clear hu hlen
  clear hq1
  refine hK.out _ _ J01 (fun _ => ?_)
  clear hK
  try simp only [aS]
  refine tw 6 4 J01 ?_ (hy := by intro w' hSw; have q0 := hSw.c x0; go_simp; try with_reducible rfl)
  try simp only [aS]
  refine tw 7 5 J01 ?_ (hy := by intro w' hSw; have q0 := hSw.c x0; go_simp; try with_reducible rfl)
  try simp only [aS]
  refine wpAnyH_done (by kernel_rfl) ?_ _
  have BE := Lib.hid (S5.out.bel.trans ((BelS.b J01).mono S5.out.s0))
  clear J0 J01 x0
  go_wp2_with fail
  refine bodyPost_ret (results_tmp2 rfl _ _ _) rfl ?_
  exact ⟨_, rfl, by rw [okL_zero]; exact HU.out, BE.out⟩
 ·have hdb : (d != 0) = true := by rw [bne_iff_ne]; exact h0
  have H0 := Lib.hid h0
  clear h0
  go_wp2_with fail
  refine bodyPost_ret (results_tmp2 rfl _ _ _) rfl ?_
  exact ⟨_, rfl, by rw [okL_ne H0.out]; exact OwnG.nil _ _ _ _ _, S.out.bel⟩
end Go.Proofs.Ytkoacclbempmdaa
