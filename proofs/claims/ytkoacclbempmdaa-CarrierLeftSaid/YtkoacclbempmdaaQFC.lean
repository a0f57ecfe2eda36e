/- Contract of the specification's Without. -/
import Derived.Test.YtkoacclbempmdaaQFA
import Derived.Test.YtkoacclbempmdaaQFB
namespace Go.Proofs.Ytkoacclbempmdaa
open Go.RowKit
attribute [local go_sem] Oper.semAt_some

def encB (b : Bool) : List Value := [.bool b]
theorem EB : Enc encB 1 := ⟨by decide, fun _ => rfl, fun x u hu => by simp [encB] at hu; subst hu; rfl⟩
theorem infoBool : (Try.prog.info? 4).map (fun i => (i.zero, i.size, i.bytes)) = some (some (.bool false), 1, 1) := by kernel_rfl
theorem makeB (n : Nat) (hn : n ≤ 60) (w : World) : ∃ W, (Instr.makeSlice 176 (.int .i64 (n : Int)) (.int .i64 (n : Int))).run Try.prog w = .ok (.slice (some ⟨w.heap.size, 0, none⟩) n n) W ∧ OwnG encB 1 4 w.heap.size (.slice (some ⟨w.heap.size, 0, none⟩) n n) (List.replicate n false) W ∧ Below w.heap.size w W := by
 obtain ⟨i0, hz0, hj0, hj1, hj2⟩ := info_parts infoBool
 obtain ⟨W, h1, h2, h3⟩ := run_makeSlice_full (P := Try.prog) w w.heap.size 176 4 i0 _ 1 Try.underlying176 hz0 hj0 hj1 .i64 .i64 n (by omega) (by rw [hj2]; omega) (by unfold maxLen; omega) (Nat.le_refl _)
 refine ⟨W, h1, ?_, (GrownL.of_row h3).below (by simp) (Nat.le_refl _)⟩
 ·unfold OwnG
  rw [List.length_replicate]
  have e : (madeCells (Value.cells (.bool false)) (n * 1)).toList = (List.replicate n false).flatMap encB := by
   rw [show Value.cells (.bool false) = #[.bool false] from rfl, toList_madeCells_one, Nat.mul_one, List.flatMap_replicate]
   simp [encB]
  rw [← e]
  exact h2
theorem makeI2 (n : Nat) (hn : n ≤ 60) (w : World) : ∃ W, (Instr.makeSlice 25 (.int .i64 (n : Int)) (.int .i64 (n : Int))).run Try.prog w = .ok (.slice (some ⟨w.heap.size, 0, none⟩) n n) W ∧ OwnG encI 1 3 w.heap.size (.slice (some ⟨w.heap.size, 0, none⟩) n n) (List.replicate n 0) W ∧ Below w.heap.size w W := by
 obtain ⟨i0, hz0, hj0, hj1, hj2⟩ := info_parts infoInt
 obtain ⟨W, h1, h2, h3⟩ := run_makeSlice_full (P := Try.prog) w w.heap.size 25 3 i0 _ 1 Try.underlying25 hz0 hj0 hj1 .i64 .i64 n (by omega) (by rw [hj2]; omega) (by unfold maxLen; omega) (Nat.le_refl _)
 refine ⟨W, h1, ?_, (GrownL.of_row h3).below (by simp) (Nat.le_refl _)⟩
 unfold OwnG
 rw [List.length_replicate]
 have e : (madeCells (Value.cells (.int .i64 0)) (n * 1)).toList = (List.replicate n (0 : Int)).flatMap encI := by
  rw [show Value.cells (.int .i64 0) = #[.int .i64 0] from rfl, toList_madeCells_one, Nat.mul_one, List.flatMap_replicate]
  simp [encI]
 rw [← e]
 exact h2
/-- What the specification's Without holds in its first blocks. -/
structure RwS (w : World) (v : Value) (W : World) : Prop where
 c : W.cell? ⟨w.heap.size, 0, none⟩ = some v
 r0 : W.cell? ⟨w.heap.size + 1, 0, none⟩ = some (.slice none 0 0)
 r1 : W.cell? ⟨w.heap.size + 1, 1, none⟩ = some (.int .i64 0)
 f0 : W.frozen? ⟨w.heap.size + 1, 0, none⟩ = false
 f1 : W.frozen? ⟨w.heap.size + 1, 1, none⟩ = false
 bel : Below w.heap.size w W
theorem RwS.siz {w W : World} {v : Value} (h : RwS w v W) : w.heap.size + 2 ≤ W.heap.size := World.block_lt_of_cell? _ _ h.r0
theorem RwS.grown {w W W' : World} {v : Value} {bs : List Nat} (h : RwS w v W) (hg : GrownL bs W W') (hn : ∀ b ∈ bs, w.heap.size + 2 ≤ b) : RwS w v W' := by
 have n : ∀ k, k ≤ w.heap.size + 1 → k ∉ bs := fun k hk hm => by have := hn k hm; omega
 exact ⟨hg.cell h.c (n _ (by show w.heap.size ≤ _; omega)), hg.cell h.r0 (n _ (Nat.le_refl _)), hg.cell h.r1 (n _ (Nat.le_refl _)), (World.frozen?_of_block (hg.block _ (World.block_lt_of_cell? _ _ h.r0) (n _ (Nat.le_refl _)))).trans h.f0, (World.frozen?_of_block (hg.block _ (World.block_lt_of_cell? _ _ h.r1) (n _ (Nat.le_refl _)))).trans h.f1, h.bel.trans (hg.below (fun b hb => by have := hn b hb; omega) h.bel.size)⟩
theorem RwS.below {w W W' : World} {v : Value} (h : RwS w v W) (hb : Below W.heap.size W W') : RwS w v W' := h.grown (GrownL.of_below (bs := []) hb) (by simp)
/-- What goes away, as far as the first carriers go. -/
def gonL (ws : Wk) (c0 k : Nat) : List Bool := (List.range ws.length).map fun d => if d < k then goneB ws c0 d else false
def nowL (ws : Wk) (c0 k : Nat) : List Int := (List.range ws.length).map fun d => if d < k then (numN ws c0 d : Int) else 0
theorem gonL_zero (ws : Wk) (c0 : Nat) : gonL ws c0 0 = List.replicate ws.length false := by
 unfold gonL
 rw [List.eq_replicate_iff]
 exact ⟨by simp, fun b hb => by obtain ⟨d, -, rfl⟩ := List.mem_map.1 hb; rfl⟩
theorem nowL_zero (ws : Wk) (c0 : Nat) : nowL ws c0 0 = List.replicate ws.length 0 := by
 unfold nowL
 rw [List.eq_replicate_iff]
 exact ⟨by simp, fun b hb => by obtain ⟨d, -, rfl⟩ := List.mem_map.1 hb; rfl⟩
theorem gonL_len (ws : Wk) (c0 k : Nat) : (gonL ws c0 k).length = ws.length := by simp [gonL]
theorem nowL_len (ws : Wk) (c0 k : Nat) : (nowL ws c0 k).length = ws.length := by simp [nowL]
theorem gonL_at (ws : Wk) (c0 : Nat) {k d : Nat} (hd : d < ws.length) : (gonL ws c0 k)[d]? = some (if d < k then goneB ws c0 d else false) := by
 unfold gonL
 rw [List.getElem?_map, List.getElem?_range hd]
 rfl
theorem nowL_at (ws : Wk) (c0 : Nat) {k d : Nat} (hd : d < ws.length) : (nowL ws c0 k)[d]? = some (if d < k then (numN ws c0 d : Int) else 0) := by
 unfold nowL
 rw [List.getElem?_map, List.getElem?_range hd]
 rfl
theorem gonL_succ (ws : Wk) (c0 : Nat) {k : Nat} (hk : k < ws.length) : gonL ws c0 (k + 1) = (gonL ws c0 k).set k (goneB ws c0 k) := by
 apply List.ext_getElem?
 intro d
 by_cases hd : d < ws.length
 ·rw [gonL_at ws c0 hd]
  by_cases e : k = d
  ·subst e
   rw [List.getElem?_set_self (by rw [gonL_len]; exact hk), if_pos (by omega)]
  ·rw [List.getElem?_set_ne e, gonL_at ws c0 hd]
   by_cases h : d < k
   ·rw [if_pos h, if_pos (by omega)]
   ·rw [if_neg h, if_neg (by omega)]
 ·rw [List.getElem?_eq_none (by rw [gonL_len]; omega), List.getElem?_eq_none (by rw [List.length_set, gonL_len]; omega)]
theorem nowL_succ (ws : Wk) (c0 : Nat) {k : Nat} (hk : k < ws.length) : nowL ws c0 (k + 1) = (nowL ws c0 k).set k (numN ws c0 k : Int) := by
 apply List.ext_getElem?
 intro d
 by_cases hd : d < ws.length
 ·rw [nowL_at ws c0 hd]
  by_cases e : k = d
  ·subst e
   rw [List.getElem?_set_self (by rw [nowL_len]; exact hk), if_pos (by omega)]
  ·rw [List.getElem?_set_ne e, nowL_at ws c0 hd]
   by_cases h : d < k
   ·rw [if_pos h, if_pos (by omega)]
   ·rw [if_neg h, if_neg (by omega)]
 ·rw [List.getElem?_eq_none (by rw [nowL_len]; omega), List.getElem?_eq_none (by rw [List.length_set, nowL_len]; omega)]

/-- The works so far, in the block g. -/
structure OutL (g : Nat) (lv : Value) (L : List Kr) (W : World) : Prop where
 l : W.cell? ⟨g, 0, none⟩ = some lv
 lf : W.frozen? ⟨g, 0, none⟩ = false
 dp : Deep (g + 1) lv L W
theorem OutL.below {g : Nat} {lv : Value} {L : List Kr} {W W' : World} (h : OutL g lv L W) (hb : Below W.heap.size W W') : OutL g lv L W' :=
 ⟨BelS.c hb h.l, (hb.frozen (p := ⟨g, 0, none⟩) (World.block_lt_of_cell? _ _ h.l)).trans h.lf, h.dp.below hb⟩
/-- Outlets that one makes, whose boards lie in rows of their own. -/
def DeepO (base : Nat) (v : Value) (R : List Ou) (W : World) : Prop := OwnG encO 7 42 base v R W ∧ ∀ o ∈ R, OwnG encI 1 3 base o.pv o.ps W ∧ ∀ g, v.ownBlock = some g → o.pv.ownBlock ≠ some g
theorem DeepO.nil (base : Nat) (W : World) : DeepO base (.slice none 0 0) [] W := ⟨OwnG.nil _ _ _ _ _, fun x hx => by cases hx⟩
theorem DeepO.below {base : Nat} {v : Value} {R : List Ou} {W W' : World} (h : DeepO base v R W) (hb : Below W.heap.size W W') : DeepO base v R W' := ⟨h.1.below hb, fun o ho => ⟨(h.2 o ho).1.below hb, (h.2 o ho).2⟩⟩
theorem DeepO.older {base : Nat} {v : Value} {R : List Ou} {W W' : World} {bs : List Nat} (h : DeepO base v R W) (hg : GrownL bs W W') (hn : ∀ b ∈ bs, b < base) : DeepO base v R W' :=
 ⟨h.1.grown hg (fun g hv hm => by have := (h.1.lt g hv).1; have := hn g hm; omega), fun o ho => ⟨(h.2 o ho).1.grown hg (fun g hv hm => by have := ((h.2 o ho).1.lt g hv).1; have := hn g hm; omega), (h.2 o ho).2⟩⟩
theorem DeepO.app {base : Nat} {v v' : Value} {R : List Ou} {x : Ou} {W W' : World} (h : DeepO base v R W) (hx : OwnG encI 1 3 base x.pv x.ps W) (hxo : ∀ g, v.ownBlock = some g → x.pv.ownBlock ≠ some g) (ho : OwnG encO 7 42 base v' (R ++ [x]) W') (hg : GrownL v.ownBlock.toList W W') (hd : v'.ownBlock = v.ownBlock ∨ v'.ownBlock = some W.heap.size) : DeepO base v' (R ++ [x]) W' := by
 refine ⟨ho, fun y hy => ?_⟩
 obtain ⟨h1, h2⟩ : OwnG encI 1 3 base y.pv y.ps W ∧ ∀ g, v.ownBlock = some g → y.pv.ownBlock ≠ some g := by
  rcases List.mem_append.1 hy with hy | hy
  ·exact h.2 y hy
  ·obtain rfl : y = x := by simpa using hy
   exact ⟨hx, hxo⟩
 refine ⟨h1.grown hg (fun g hgy hm => h2 g (by simpa using hm) hgy), fun g hgv => ?_⟩
 rcases hd with hd | hd
 ·exact h2 g (hd ▸ hgv)
 ·intro e
  rw [hd] at hgv
  cases hgv
  have := (h1.lt _ e).2
  omega
/-- A carrier of works that one makes, from its outlets. -/
theorem DeepO.kr {base base' : Nat} {v : Value} {R : List Ou} {A : Option Addr} {c : Nat} {W : World} (h : DeepO base (.slice A R.length c) R W) (hb : base' ≤ base) (hv : ∀ g, v.ownBlock = some g → g < base) (hl : R.length ≤ 100000) (hps : ∀ o ∈ R, o.ps.length ≤ 100000) : KrOk base' v ⟨A, c, R⟩ W :=
 ⟨RO.of_rr (h.1.rr EO (by show R.length ≤ 1000000000000000; omega)) fun x hx => rr_ri ((h.2 x hx).1.rr EI (by have := hps x hx; show x.ps.length ≤ 1000000000000000; omega)),
  fun _ g hg => Nat.le_trans hb (h.1.lt g hg).1, fun o ho _ g hg => Nat.le_trans hb ((h.2 o ho).1.lt g hg).1,
  fun _ g hg hg2 => by have := hv g hg; have := (h.1.lt g hg2).1; omega, fun o ho _ g hg hg2 => by have := hv g hg; have := ((h.2 o ho).1.lt g hg2).1; omega⟩

set_option maxHeartbeats 16000000 in
set_option maxRecDepth 1000000 in
theorem rwithout_any (A : Option Addr) (c : Nat) (ws : Wk) (n d : Int) (w : World) (h : RK w.heap.size (.slice A ws.length c) ws w) (ht : total ws ≤ 100000) (hd : CheckIs ws d) (hps : ∀ os ∈ ws, ∀ o ∈ os, o.ps.length ≤ 1000) :
  Calls Try.prog 74 #[.agg #[.slice A ws.length c], .int .i64 n] w fun e w' => ∃ v E, e = .returned (.agg #[v, .int .i64 E]) ∧ WoIs ws d n w.heap.size v E w' ∧ Below w.heap.size w w' := by
 have H := Lib.hid h
 have HD := Lib.hid hd
 have HPS := Lib.hid hps
 obtain ⟨W0, hW0⟩ : ∃ W0, ((w.alloc (.cells #[.slice A ws.length c] 24)).alloc (.cells #[.slice none 0 0, .int .i64 0] 114)) = W0 := ⟨_, rfl⟩
 have S : Hid (RwS w (.slice A ws.length c) W0) := Lib.hid ⟨by rw [← hW0]; simp [go_sem], by rw [← hW0]; simp [go_sem], by rw [← hW0]; simp [go_sem], by rw [← hW0]; simp [go_sem], by rw [← hW0]; simp [go_sem], by rw [← hW0]; exact ((Below.refl _ _).alloc (Nat.le_refl _) _).alloc (by simp) _⟩
 have CC := Lib.hid (rcheck_any A ws.length c ws d W0 (h.up S.out.bel.size S.out.bel) ht hd)
 have x0 := S.out.c
 have hnb : (ws.length : Int) ≤ 1000000000000000 := by obtain ⟨_, _, _, hf, _⟩ := h; have hf : ws.length ≤ 1000000000000000 := hf; omega
 clear h ht hd hps
 go_enter Try.func74, Try.ntmps74
 go_wp2_with fail
 refine CC.out.mono ?_
 rintro e w1 ⟨rfl, b1⟩
 replace S := Lib.hid (S.out.below b1)
 clear b1 CC x0 hW0
 by_cases hd0 : d = 0
 rotate_left
 ·have hdb : (d != 0) = true := by rw [bne_iff_ne]; exact hd0
  have x0 := S.out.r0
  have x1 := S.out.f0
  have x2 := S.out.r1
  have x3 := S.out.f1
  go_wp2_with fail
  have g1 : GrownL [w.heap.size + 1] w1 ((w1.setCell ⟨w.heap.size + 1, 0, none⟩ (.slice none 0 0)).setCell ⟨w.heap.size + 1, 1, none⟩ (.int .i64 d)) := (GrownL.set (bs := [w.heap.size + 1]) _ _ _ (by simp)).trans (GrownL.set _ _ _ (by simp))
  have p1 : ((w1.setCell ⟨w.heap.size + 1, 0, none⟩ (.slice none 0 0)).setCell ⟨w.heap.size + 1, 1, none⟩ (.int .i64 d)).cell? ⟨w.heap.size + 1, 1, none⟩ = some (.int .i64 d) := World.cell?_setCell_same' _ _ _ (by rw [World.cell?_setCell_other _ ⟨w.heap.size + 1, 0, none⟩ ⟨w.heap.size + 1, 1, none⟩ _ (by simp), x2]; rfl)
  have p0 : ((w1.setCell ⟨w.heap.size + 1, 0, none⟩ (.slice none 0 0)).setCell ⟨w.heap.size + 1, 1, none⟩ (.int .i64 d)).cell? ⟨w.heap.size + 1, 0, none⟩ = some (.slice none 0 0) := by rw [World.cell?_setCell_other _ ⟨w.heap.size + 1, 1, none⟩ ⟨w.heap.size + 1, 0, none⟩ _ (by simp)]; exact World.cell?_setCell_same' _ _ _ (by rw [x0]; rfl)
  obtain ⟨Wf, hWf⟩ : ∃ Wf, (w1.setCell ⟨w.heap.size + 1, 0, none⟩ (.slice none 0 0)).setCell ⟨w.heap.size + 1, 1, none⟩ (.int .i64 d) = Wf := ⟨_, rfl⟩
  rw [hWf] at g1 p0 p1 ⊢
  refine bodyPost_ret (v := .agg #[.slice none 0 0, .int .i64 d]) (by simp [results, Try.results74, go_sem, p0, p1]) rfl ?_
  exact ⟨_, _, rfl, ⟨[], Deep.nil _ _, .inl ⟨hd0, rfl, rfl⟩⟩, S.out.bel.trans (g1.below (by simp) S.out.bel.size)⟩
 subst hd0
 have HW := Lib.hid HD.out.ok
 by_cases hn : n < 0
 ·have hnd : decide (n < 0) = true := decide_eq_true hn
  have x0 := S.out.r0
  have x1 := S.out.f0
  have x2 := S.out.r1
  have x3 := S.out.f1
  go_wp2_with fail
  have g1 : GrownL [w.heap.size + 1] w1 ((w1.setCell ⟨w.heap.size + 1, 0, none⟩ (.slice none 0 0)).setCell ⟨w.heap.size + 1, 1, none⟩ (.int .i64 5)) := (GrownL.set (bs := [w.heap.size + 1]) _ _ _ (by simp)).trans (GrownL.set _ _ _ (by simp))
  have p1 : ((w1.setCell ⟨w.heap.size + 1, 0, none⟩ (.slice none 0 0)).setCell ⟨w.heap.size + 1, 1, none⟩ (.int .i64 5)).cell? ⟨w.heap.size + 1, 1, none⟩ = some (.int .i64 5) := World.cell?_setCell_same' _ _ _ (by rw [World.cell?_setCell_other _ ⟨w.heap.size + 1, 0, none⟩ ⟨w.heap.size + 1, 1, none⟩ _ (by simp), x2]; rfl)
  have p0 : ((w1.setCell ⟨w.heap.size + 1, 0, none⟩ (.slice none 0 0)).setCell ⟨w.heap.size + 1, 1, none⟩ (.int .i64 5)).cell? ⟨w.heap.size + 1, 0, none⟩ = some (.slice none 0 0) := by rw [World.cell?_setCell_other _ ⟨w.heap.size + 1, 1, none⟩ ⟨w.heap.size + 1, 0, none⟩ _ (by simp)]; exact World.cell?_setCell_same' _ _ _ (by rw [x0]; rfl)
  obtain ⟨Wf, hWf⟩ : ∃ Wf, (w1.setCell ⟨w.heap.size + 1, 0, none⟩ (.slice none 0 0)).setCell ⟨w.heap.size + 1, 1, none⟩ (.int .i64 5) = Wf := ⟨_, rfl⟩
  rw [hWf] at g1 p0 p1 ⊢
  refine bodyPost_ret (v := .agg #[.slice none 0 0, .int .i64 5]) (by simp [results, Try.results74, go_sem, p0, p1]) rfl ?_
  exact ⟨_, _, rfl, ⟨[], Deep.nil _ _, .inr (.inl ⟨rfl, .inl hn, rfl, rfl⟩)⟩, S.out.bel.trans (g1.below (by simp) S.out.bel.size)⟩
 by_cases hnl : (ws.length : Int) ≤ n
 ·have x0 := S.out.r0
  have x1 := S.out.f0
  have x2 := S.out.r1
  have x3 := S.out.f1
  have x4 := S.out.c
  go_wp2_with fail
  have g1 : GrownL [w.heap.size + 1] w1 ((w1.setCell ⟨w.heap.size + 1, 0, none⟩ (.slice none 0 0)).setCell ⟨w.heap.size + 1, 1, none⟩ (.int .i64 5)) := (GrownL.set (bs := [w.heap.size + 1]) _ _ _ (by simp)).trans (GrownL.set _ _ _ (by simp))
  have p1 : ((w1.setCell ⟨w.heap.size + 1, 0, none⟩ (.slice none 0 0)).setCell ⟨w.heap.size + 1, 1, none⟩ (.int .i64 5)).cell? ⟨w.heap.size + 1, 1, none⟩ = some (.int .i64 5) := World.cell?_setCell_same' _ _ _ (by rw [World.cell?_setCell_other _ ⟨w.heap.size + 1, 0, none⟩ ⟨w.heap.size + 1, 1, none⟩ _ (by simp), x2]; rfl)
  have p0 : ((w1.setCell ⟨w.heap.size + 1, 0, none⟩ (.slice none 0 0)).setCell ⟨w.heap.size + 1, 1, none⟩ (.int .i64 5)).cell? ⟨w.heap.size + 1, 0, none⟩ = some (.slice none 0 0) := by rw [World.cell?_setCell_other _ ⟨w.heap.size + 1, 1, none⟩ ⟨w.heap.size + 1, 0, none⟩ _ (by simp)]; exact World.cell?_setCell_same' _ _ _ (by rw [x0]; rfl)
  obtain ⟨Wf, hWf⟩ : ∃ Wf, (w1.setCell ⟨w.heap.size + 1, 0, none⟩ (.slice none 0 0)).setCell ⟨w.heap.size + 1, 1, none⟩ (.int .i64 5) = Wf := ⟨_, rfl⟩
  rw [hWf] at g1 p0 p1 ⊢
  refine bodyPost_ret (v := .agg #[.slice none 0 0, .int .i64 5]) (by simp [results, Try.results74, go_sem, p0, p1]) rfl ?_
  exact ⟨_, _, rfl, ⟨[], Deep.nil _ _, .inr (.inl ⟨rfl, .inr hnl, rfl, rfl⟩)⟩, S.out.bel.trans (g1.below (by simp) S.out.bel.size)⟩
 obtain ⟨c0, rfl⟩ : ∃ c0 : Nat, n = c0 := ⟨n.toNat, by omega⟩
 have hc0 : c0 < ws.length := by omega
 have hc1 : (c0 : Int) < (ws.length : Int) := by omega
 have hc2 : (0 : Int) ≤ (c0 : Int) := by omega
 have CP := Lib.hid (rplaces_any A ws.length c ws w1 (H.out.up S.out.bel.size S.out.bel) (by have := HW.out.tot; omega))
 have x0 := S.out.c
 go_wp2_with fail
 refine CP.out.mono ?_
 rintro e w2 ⟨pv, rfl, op, b2⟩
 have S1 := S
 replace S := Lib.hid (S.out.below b2)
 have hl16 : ws.length ≤ 16 := HW.out.len
 have hl16' : (ws.length : Int) ≤ 16 := by omega
 obtain ⟨W3, m3, o3, b3⟩ := makeB ws.length (by omega) w2
 obtain ⟨W4, m4, o4, b4⟩ := makeI2 ws.length (by omega) W3
 obtain ⟨Ap, cp, rfl, -⟩ := op.form
 have hpl := plL_len ws
 have PR : Hid (RR enc2 w2.heap.size (.slice Ap (plL ws).length cp) (plL ws) w2) := Lib.hid (op.rr E2 (by rw [hpl]; have := HW.out.tot; show total ws ≤ 1000000000000000; omega))
 clear b2 CP x0 hn hnl
 have x0 := S.out.c
 have x1 := BelS.c b3 x0
 go_wp2_with fail
 have S4 := Lib.hid ((S.out.below b3).below b4)
 have G4 : Hid (OwnG encB 1 4 w2.heap.size (.slice (some ⟨w2.heap.size, 0, none⟩) ws.length ws.length) (gonL ws c0 0) W4) := Lib.hid (by rw [gonL_zero]; exact o3.below b4)
 have N4 : Hid (OwnG encI 1 3 W3.heap.size (.slice (some ⟨W3.heap.size, 0, none⟩) ws.length ws.length) (nowL ws c0 0) W4) := Lib.hid (by rw [nowL_zero]; exact o4)
 have b24 : Below w2.heap.size w2 W4 := b3.trans (b4.mono b3.size)
 replace PR := Lib.hid (PR.out.up b24.size b24)
 have HPB : Hid (∀ g, Value.ownBlock (.slice Ap (plL ws).length cp) = some g → g < w2.heap.size) := Lib.hid fun g hg => (op.lt g hg).2
 obtain ⟨np, hnp⟩ : ∃ np, total ws = np := ⟨_, rfl⟩
 have HNP : Hid (np = total ws) := Lib.hid hnp.symm
 have hn60 : (np : Int) ≤ 60 := by have := HW.out.tot; omega
 rw [hpl, hnp] at PR HPB
 rw [hnp]
 obtain ⟨g7, hg7⟩ : ∃ g, w2.heap.size = g := ⟨_, rfl⟩
 obtain ⟨g8, hg8⟩ : ∃ g, W3.heap.size = g := ⟨_, rfl⟩
 have HGG : Hid (w.heap.size + 2 ≤ g7 ∧ g7 < g8 ∧ g8 < W4.heap.size) := Lib.hid (by
  have h1 := S.out.siz
  rw [hg7] at h1
  have h2 : g7 < g8 := by have := (o3.lt w2.heap.size rfl).2; rw [hg7, hg8] at this; exact this
  have h3 : g8 < W4.heap.size := by have := (o4.lt W3.heap.size rfl).2; rw [hg8] at this; exact this
  exact ⟨h1, h2, h3⟩)
 rw [hg7] at G4 HPB
 rw [hg8] at N4
 rw [hg7, hg8]
 clear hg7 hg8 hnp hpl m3 m4 o3 o4 b3 b4 b24 op x0 x1 S1 S
 go_loopw [9, 10] (fun o u wr => ∃ k : Nat, u = .int .i64 k ∧ o = .int .i64 (numN ws c0 k) ∧ k ≤ ws.length ∧ RwS w (.slice A ws.length c) wr ∧ OwnG encB 1 4 g7 (.slice (some ⟨g7, 0, none⟩) ws.length ws.length) (gonL ws c0 k) wr ∧ OwnG encI 1 3 g8 (.slice (some ⟨g8, 0, none⟩) ws.length ws.length) (nowL ws c0 k) wr ∧ RR enc2 wr.heap.size (.slice Ap np cp) (plL ws) wr) (fun _ u _ => ws.length - (intOf u).toNat)
 case atStart => exact ⟨0, rfl, rfl, by omega, S4.out, G4.out, N4.out, PR.out⟩
 case round =>
  obtain ⟨k, rfl, rfl, hk, hS, hG, hN, hP⟩ := hrel
  have HS := Lib.hid hS
  have HG := Lib.hid hG
  have HN := Lib.hid hN
  have HP := Lib.hid hP
  clear hS hG hN hP
  by_cases hkl : k < ws.length
  ·have hk0 : (k : Int) < (ws.length : Int) := by omega
   have hk2 : (0 : Int) ≤ (k : Int) := by omega
   have x0 := HS.out.c
   obtain ⟨r, hr⟩ := FstIs.exists_ (fun o : Ou => o.into) (outs ws) (k : Int)
   have CF := Lib.hid (rfeeder_any A ws.length c ws k r wr (H.out.up HS.out.bel.size HS.out.bel) (by have := HW.out.tot; omega) hr)
   have HF := Lib.hid hr
   have hGF := gone_feeder HW.out (c0 := c0) hr
   have HGF := Lib.hid hGF
   have hnk : numN ws c0 (k + 1) = numN ws c0 k + (if goneB ws c0 k then 0 else 1) := rfl
   have hnl := numN_le ws c0 k
   obtain ⟨q, hq⟩ : ∃ q, numN ws c0 k = q := ⟨_, rfl⟩
   have HQ := Lib.hid hq
   have HNK := Lib.hid hnk
   rw [hq] at hnl ⊢
   have hq16 : (q : Int) ≤ 16 := by omega
   clear hr hGF hnk hq
   go_wp2_with fail
   refine CF.out.mono ?_
   rintro e wa ⟨rfl, ba⟩
   replace HS := Lib.hid (HS.out.below ba)
   replace HG := Lib.hid (HG.out.below ba)
   replace HN := Lib.hid (HN.out.below ba)
   replace HP := Lib.hid (HP.out.up ba.size ba)
   clear ba CF x0
   have gat := gonL_at ws c0 (k := k) hkl
   rw [if_neg (by omega)] at gat
   have nat := nowL_at ws c0 (k := k) hkl
   rw [if_neg (by omega)] at nat
   have hgc : wa.cell? ⟨g7, k, none⟩ = some (.bool false) := by
    obtain ⟨b, o, c', e, -, hc⟩ := (HG.out.rr EB (by rw [gonL_len]; show ws.length ≤ 1000000000000000; omega)).at_ EB gat
    simp only [Value.slice.injEq, Option.some.injEq, Addr.mk.injEq, and_true] at e
    obtain ⟨⟨rfl, rfl⟩, -, -⟩ := e
    have := hc 0 _ rfl
    rwa [show 0 + k * 1 + 0 = k by omega] at this
   have hnc : wa.cell? ⟨g8, k, none⟩ = some (.int .i64 0) := by
    obtain ⟨b, o, c', e, -, hc⟩ := (HN.out.rr EI (by rw [nowL_len]; show ws.length ≤ 1000000000000000; omega)).at_ EI nat
    simp only [Value.slice.injEq, Option.some.injEq, Addr.mk.injEq, and_true] at e
    obtain ⟨⟨rfl, rfl⟩, -, -⟩ := e
    have := hc 0 _ rfl
    rwa [show 0 + k * 1 + 0 = k by omega] at this
   have hgf : wa.frozen? ⟨g7, k, none⟩ = false := World.ownsRow.frozenAt (by have := HG.out; unfold OwnG at this; rwa [gonL_len] at this) k
   have hnf : wa.frozen? ⟨g8, k, none⟩ = false := World.ownsRow.frozenAt (by have := HN.out; unfold OwnG at this; rwa [nowL_len] at this) k
   have HGC := Lib.hid (And.intro hgc hgf)
   have HNC := Lib.hid (And.intro hnc hnf)
   have HAT := Lib.hid (And.intro gat nat)
   clear hgc hnc hgf hnf gat nat
   have NEXT : Hid (∀ bv : Bool, bv = goneB ws c0 k → RwS w (.slice A ws.length c) ((wa.setCell ⟨g7, k, none⟩ (.bool bv)).setCell ⟨g8, k, none⟩ (.int .i64 q)) ∧ OwnG encB 1 4 g7 (.slice (some ⟨g7, 0, none⟩) ws.length ws.length) (gonL ws c0 (k + 1)) ((wa.setCell ⟨g7, k, none⟩ (.bool bv)).setCell ⟨g8, k, none⟩ (.int .i64 q)) ∧ OwnG encI 1 3 g8 (.slice (some ⟨g8, 0, none⟩) ws.length ws.length) (nowL ws c0 (k + 1)) ((wa.setCell ⟨g7, k, none⟩ (.bool bv)).setCell ⟨g8, k, none⟩ (.int .i64 q)) ∧ RR enc2 ((wa.setCell ⟨g7, k, none⟩ (.bool bv)).setCell ⟨g8, k, none⟩ (.int .i64 q)).heap.size (.slice Ap np cp) (plL ws) ((wa.setCell ⟨g7, k, none⟩ (.bool bv)).setCell ⟨g8, k, none⟩ (.int .i64 q))) := Lib.hid fun bv hbv => by
    have hz := HGG.out
    have g1 : GrownL [g7] wa (wa.setCell ⟨g7, k, none⟩ (.bool bv)) := GrownL.set _ _ _ (by simp)
    have g2 : GrownL [g8] (wa.setCell ⟨g7, k, none⟩ (.bool bv)) ((wa.setCell ⟨g7, k, none⟩ (.bool bv)).setCell ⟨g8, k, none⟩ (.int .i64 q)) := GrownL.set _ _ _ (by simp)
    have oG := OwnG.setC EB HG.out (gonL_len ws c0 k).symm (j := k) (i := 0) (x' := bv) (u := .bool bv) HAT.out.1 (by decide) rfl
    rw [Nat.mul_one, Nat.add_zero, hbv, ← gonL_succ ws c0 hkl, ← hbv] at oG
    have oN := OwnG.setC EI (HN.out.grown g1 (fun g hg hm => by have := (HN.out.lt g hg).1; simp at hm; omega)) (nowL_len ws c0 k).symm (j := k) (i := 0) (x' := (q : Int)) (u := .int .i64 q) HAT.out.2 (by decide) rfl
    rw [Nat.mul_one, Nat.add_zero, ← HQ.out, ← nowL_succ ws c0 hkl, HQ.out] at oN
    exact ⟨(HS.out.grown g1 (by simp; omega)).grown g2 (by simp; omega), oG.grown g2 (fun g hg hm => by cases hg; simp at hm; omega), oN, (HP.out.grown g1 (fun g hg hm => by have := HPB.out g hg; simp at hm; omega)).grown g2 (fun g hg hm => by have := HPB.out g hg; simp at hm; omega)⟩
   have gatN : Hid (∀ bv : Bool, (wa.setCell ⟨g7, k, none⟩ (.bool bv)).cell? ⟨g8, k, none⟩ = some (.int .i64 0) ∧ (wa.setCell ⟨g7, k, none⟩ (.bool bv)).frozen? ⟨g8, k, none⟩ = false ∧ ((wa.setCell ⟨g7, k, none⟩ (.bool bv)).setCell ⟨g8, k, none⟩ (.int .i64 q)).cell? ⟨g7, k, none⟩ = some (.bool bv)) := Lib.hid fun bv => by
    have hz := HGG.out
    refine ⟨by rw [World.cell?_setCell_other _ ⟨g7, k, none⟩ ⟨g8, k, none⟩ _ (by simp <;> omega)]; exact HNC.out.1, (World.frozen?_setCell _ _ _ _).trans HNC.out.2, ?_⟩
    rw [World.cell?_setCell_other _ ⟨g8, k, none⟩ ⟨g7, k, none⟩ _ (by simp <;> omega)]
    exact World.cell?_setCell_same' _ _ _ (by rw [HGC.out.1]; rfl)
   by_cases hkc : k = c0
   ·have WHY : Hid (true = goneB ws c0 k) := Lib.hid (by rw [HGF.out, decide_eq_true hkc]; rfl)
    have hke : ((k : Int) == (c0 : Int)) = true := by rw [beq_iff_eq]; omega
    clear hkc
    have u1 := HGC.out.1
    have u2 := HGC.out.2
    obtain ⟨Wx, hWx⟩ : ∃ Wx, wa.setCell ⟨g7, k, none⟩ (.bool true) = Wx := ⟨_, rfl⟩
    obtain ⟨Wy, hWy⟩ : ∃ Wy, Wx.setCell ⟨g8, k, none⟩ (.int .i64 q) = Wy := ⟨_, rfl⟩
    have NX := Lib.hid (NEXT.out true WHY.out)
    obtain ⟨v1, v2, v3⟩ := gatN.out true
    rw [hWx] at v1 v2 v3 NX
    rw [hWy] at v3 NX
    go_wp2_with fail
    go_roundw
    case rel => exact ⟨k + 1, by go_num, by rw [HNK.out, HQ.out, ← WHY.out]; rfl, by omega, NX.out.1, NX.out.2.1, NX.out.2.2.1, NX.out.2.2.2⟩
    case measure => show ws.length - ((k : Int) + 1).toNat < ws.length - (k : Int).toNat; omega
   ·have hke : ((k : Int) == (c0 : Int)) = false := by rw [beq_eq_false_iff_ne]; omega
    rcases HF.out with ⟨i, o, ho, hoi, -, hri⟩ | ⟨hno, hri⟩
    ·obtain ⟨p, hp⟩ := at_total (ws := ws) (n := i) (by rw [← outs_len]; exact (List.getElem?_eq_some_iff.1 ho).1)
     have hoo := (outs_get hp).1
     rw [hoo] at ho
     cases ho
     have hoi : p.o.into = (k : Int) := hoi
     have hpc := (HW.out.into_lt hp hoi).1
     have hil := lt_total hp
     have WHY0 : Hid (goneB ws c0 p.c = goneB ws c0 k) := Lib.hid (by rw [HGF.out, decide_eq_false hkc, hri, show ((i : Int)).toNat = i by omega, hp]; simp)
     subst hri
     have hmx : (if (0 : Int) < (i : Int) then (i : Int) else 0) = i := by split <;> omega
     have hi0 : (0 : Int) ≤ (i : Int) := by omega
     have hi1 : (i : Int) < (np : Int) := by have := HNP.out; omega
     obtain ⟨b, o0, c', e1, hb, hcs⟩ := HP.out.at_ E2 (outs_get hp).2
     have y0 := hcs 0 _ rfl
     simp only [Value.slice.injEq] at e1
     obtain ⟨hAp, -, -⟩ := e1
     subst hAp
     rw [Nat.add_zero] at y0
     have hp0 : (0 : Int) ≤ (p.c : Int) := by omega
     have hp1 : (p.c : Int) < (ws.length : Int) := by omega
     have y1 : wa.cell? ⟨g7, p.c, none⟩ = some (.bool (goneB ws c0 p.c)) := by
      have gat := gonL_at ws c0 (k := k) (show p.c < ws.length by omega)
      rw [if_pos hpc] at gat
      obtain ⟨b, o, c', e, -, hc⟩ := (HG.out.rr EB (by rw [gonL_len]; show ws.length ≤ 1000000000000000; omega)).at_ EB gat
      simp only [Value.slice.injEq, Option.some.injEq, Addr.mk.injEq, and_true] at e
      obtain ⟨⟨rfl, rfl⟩, -, -⟩ := e
      have := hc 0 _ rfl
      rwa [show 0 + p.c * 1 + 0 = p.c by omega] at this
     obtain ⟨pc, hpcc⟩ : ∃ pc, p.c = pc := ⟨_, rfl⟩
     obtain ⟨bb, hbb⟩ : ∃ bb, goneB ws c0 p.c = bb := ⟨_, rfl⟩
     rw [hbb] at y1 WHY0
     rw [hpcc] at y0 y1 hp0 hp1
     clear hoi hpc hil hp hoo hcs hbb hpcc hkc
     clear hmx
     rcases Nat.eq_zero_or_pos i with hi3 | hi3
     ·subst hi3
      simp only [Nat.zero_mul, Nat.add_zero] at y0
      cases bb
      ·have WHY : Hid (false = goneB ws c0 k) := WHY0
       have u1 := HGC.out.1
       have u2 := HGC.out.2
       obtain ⟨Wx, hWx⟩ : ∃ Wx, wa.setCell ⟨g7, k, none⟩ (.bool false) = Wx := ⟨_, rfl⟩
       obtain ⟨Wy, hWy⟩ : ∃ Wy, Wx.setCell ⟨g8, k, none⟩ (.int .i64 q) = Wy := ⟨_, rfl⟩
       have NX := Lib.hid (NEXT.out false WHY.out)
       obtain ⟨v1, v2, v3⟩ := gatN.out false
       rw [hWx] at v1 v2 v3 NX
       rw [hWy] at v3 NX
       go_wp2_with fail
       go_roundw
       case rel => exact ⟨k + 1, by go_num, by rw [HNK.out, HQ.out, ← WHY.out]; rfl, by omega, NX.out.1, NX.out.2.1, NX.out.2.2.1, NX.out.2.2.2⟩
       case measure => show ws.length - ((k : Int) + 1).toNat < ws.length - (k : Int).toNat; omega
      ·have WHY : Hid (true = goneB ws c0 k) := WHY0
       have u1 := HGC.out.1
       have u2 := HGC.out.2
       obtain ⟨Wx, hWx⟩ : ∃ Wx, wa.setCell ⟨g7, k, none⟩ (.bool true) = Wx := ⟨_, rfl⟩
       obtain ⟨Wy, hWy⟩ : ∃ Wy, Wx.setCell ⟨g8, k, none⟩ (.int .i64 q) = Wy := ⟨_, rfl⟩
       have NX := Lib.hid (NEXT.out true WHY.out)
       obtain ⟨v1, v2, v3⟩ := gatN.out true
       rw [hWx] at v1 v2 v3 NX
       rw [hWy] at v3 NX
       go_wp2_with fail
       go_roundw
       case rel => exact ⟨k + 1, by go_num, by rw [HNK.out, HQ.out, ← WHY.out]; rfl, by omega, NX.out.1, NX.out.2.1, NX.out.2.2.1, NX.out.2.2.2⟩
       case measure => show ws.length - ((k : Int) + 1).toNat < ws.length - (k : Int).toNat; omega
     ·cases bb
      ·have WHY : Hid (false = goneB ws c0 k) := WHY0
       have u1 := HGC.out.1
       have u2 := HGC.out.2
       obtain ⟨Wx, hWx⟩ : ∃ Wx, wa.setCell ⟨g7, k, none⟩ (.bool false) = Wx := ⟨_, rfl⟩
       obtain ⟨Wy, hWy⟩ : ∃ Wy, Wx.setCell ⟨g8, k, none⟩ (.int .i64 q) = Wy := ⟨_, rfl⟩
       have NX := Lib.hid (NEXT.out false WHY.out)
       obtain ⟨v1, v2, v3⟩ := gatN.out false
       rw [hWx] at v1 v2 v3 NX
       rw [hWy] at v3 NX
       go_wp2_with fail
       go_roundw
       case rel => exact ⟨k + 1, by go_num, by rw [HNK.out, HQ.out, ← WHY.out]; rfl, by omega, NX.out.1, NX.out.2.1, NX.out.2.2.1, NX.out.2.2.2⟩
       case measure => show ws.length - ((k : Int) + 1).toNat < ws.length - (k : Int).toNat; omega
      ·have WHY : Hid (true = goneB ws c0 k) := WHY0
       have u1 := HGC.out.1
       have u2 := HGC.out.2
       obtain ⟨Wx, hWx⟩ : ∃ Wx, wa.setCell ⟨g7, k, none⟩ (.bool true) = Wx := ⟨_, rfl⟩
       obtain ⟨Wy, hWy⟩ : ∃ Wy, Wx.setCell ⟨g8, k, none⟩ (.int .i64 q) = Wy := ⟨_, rfl⟩
       have NX := Lib.hid (NEXT.out true WHY.out)
       obtain ⟨v1, v2, v3⟩ := gatN.out true
       rw [hWx] at v1 v2 v3 NX
       rw [hWy] at v3 NX
       go_wp2_with fail
       go_roundw
       case rel => exact ⟨k + 1, by go_num, by rw [HNK.out, HQ.out, ← WHY.out]; rfl, by omega, NX.out.1, NX.out.2.1, NX.out.2.2.1, NX.out.2.2.2⟩
       case measure => show ws.length - ((k : Int) + 1).toNat < ws.length - (k : Int).toNat; omega
    ·have WHY : Hid (false = goneB ws c0 k) := Lib.hid (by rw [HGF.out, decide_eq_false hkc, hri]; rfl)
     subst hri
     clear hno hkc
     have u1 := HGC.out.1
     have u2 := HGC.out.2
     obtain ⟨Wx, hWx⟩ : ∃ Wx, wa.setCell ⟨g7, k, none⟩ (.bool false) = Wx := ⟨_, rfl⟩
     obtain ⟨Wy, hWy⟩ : ∃ Wy, Wx.setCell ⟨g8, k, none⟩ (.int .i64 q) = Wy := ⟨_, rfl⟩
     have NX := Lib.hid (NEXT.out false WHY.out)
     obtain ⟨v1, v2, v3⟩ := gatN.out false
     rw [hWx] at v1 v2 v3 NX
     rw [hWy] at v3 NX
     go_wp2_with fail
     go_roundw
     case rel => exact ⟨k + 1, by go_num, by rw [HNK.out, HQ.out, ← WHY.out]; rfl, by omega, NX.out.1, NX.out.2.1, NX.out.2.2.1, NX.out.2.2.2⟩
     case measure => show ws.length - ((k : Int) + 1).toNat < ws.length - (k : Int).toNat; omega
  ·have hk0 : (ws.length : Int) ≤ (k : Int) := by omega
   obtain rfl : k = ws.length := by omega
   obtain ⟨w5, hw5⟩ : ∃ w5, w5 = wr := ⟨_, rfl⟩
   rw [← hw5] at HS HG HN
   obtain ⟨W5, hW5⟩ : ∃ W5, w5.alloc (.cells #[.slice none 0 0] 24) = W5 := ⟨_, rfl⟩
   obtain ⟨g12, hg12⟩ : ∃ g, w5.heap.size = g := ⟨_, rfl⟩
   have b5 : Below g12 w5 W5 := by rw [← hW5, ← hg12]; exact (Below.refl _ _).alloc (Nat.le_refl _) _
   have O5 : Hid (OutL g12 (.slice none 0 0) [] W5) := Lib.hid ⟨by rw [← hW5, ← hg12]; simp [go_sem], by rw [← hW5, ← hg12]; simp [go_sem], Deep.nil _ _⟩
   have HZ : Hid (g8 < g12 ∧ w5.heap.size = g12) := Lib.hid ⟨by have := (HN.out.lt g8 rfl).2; omega, hg12⟩
   have B5 := Lib.hid b5
   have x0 := b5.cell (p := ⟨w.heap.size, 0, none⟩) (by have := HZ.out; have := HGG.out; show w.heap.size < g12; omega) |>.trans HS.out.c
   have x00 := HS.out.c
   rw [← hw5]
   clear hw5 b5 HP
   go_wp2_with fail
   clear hW5 x0 x00
   go_loopw [13] (fun u wr => ∃ (k : Nat) (lv : Value) (L : List Kr), u = .int .i64 k ∧ k ≤ ws.length ∧ Below g12 w5 wr ∧ OutL g12 lv L wr ∧ (L.map (·.os)).map (fun os => os.map Ou.co) = wOut ws c0 k) (fun u _ => ws.length - (intOf u).toNat)
   case atStart => exact ⟨0, _, [], rfl, by omega, B5.out, O5.out, rfl⟩
   case round =>
    obtain ⟨k, lv, L, rfl, hk, hB, hO, hw⟩ := hrel
    have HB := Lib.hid hB
    have HO := Lib.hid hO
    have HWO := Lib.hid hw
    clear hB hO hw hg12
    obtain ⟨wo, rfl⟩ : ∃ wo, wo = wr := ⟨_, rfl⟩
    have hb5 : Below w5.heap.size w5 wo := by rw [HZ.out.2]; exact HB.out
    have S := Lib.hid (HS.out.below hb5)
    have G := Lib.hid (HG.out.below hb5)
    have N := Lib.hid (HN.out.below hb5)
    have HZR : Hid (g12 < wo.heap.size) := Lib.hid (World.block_lt_of_cell? _ _ HO.out.l)
    clear hb5
    have x0 := S.out.c
    by_cases hkl : k < ws.length
    ·have hk0 : (k : Int) < (ws.length : Int) := by omega
     have hk2 : (0 : Int) ≤ (k : Int) := by omega
     have GAT : Hid (∀ j, j < ws.length → wo.cell? ⟨g7, j, none⟩ = some (.bool (goneB ws c0 j)) ∧ wo.cell? ⟨g8, j, none⟩ = some (.int .i64 (numN ws c0 j))) := Lib.hid fun j hj => by
      have gat := gonL_at ws c0 (k := ws.length) hj
      rw [if_pos hj] at gat
      have nat := nowL_at ws c0 (k := ws.length) hj
      rw [if_pos hj] at nat
      constructor
      ·obtain ⟨b, o, c', e, -, hc⟩ := (G.out.rr EB (by rw [gonL_len]; show ws.length ≤ 1000000000000000; omega)).at_ EB gat
       simp only [Value.slice.injEq, Option.some.injEq, Addr.mk.injEq, and_true] at e
       obtain ⟨⟨rfl, rfl⟩, -, -⟩ := e
       have := hc 0 _ rfl
       rwa [show 0 + j * 1 + 0 = j by omega] at this
      ·obtain ⟨b, o, c', e, -, hc⟩ := (N.out.rr EI (by rw [nowL_len]; show ws.length ≤ 1000000000000000; omega)).at_ EI nat
       simp only [Value.slice.injEq, Option.some.injEq, Addr.mk.injEq, and_true] at e
       obtain ⟨⟨rfl, rfl⟩, -, -⟩ := e
       have := hc 0 _ rfl
       rwa [show 0 + j * 1 + 0 = j by omega] at this
     have y0 := (GAT.out k hkl).1
     cases hg : goneB ws c0 k
     ·have HGK := Lib.hid hg
      rw [hg] at y0
      clear hg
      obtain ⟨os, hos⟩ : ∃ os, ws[k]? = some os := ⟨_, List.getElem?_eq_getElem hkl⟩
      obtain ⟨b, o, A', c', hA, hb, hcell, hro⟩ := H.out.carrier hos
      have HRO := Lib.hid hro
      have HOS := Lib.hid hos
      have HCE := Lib.hid (And.intro hb hcell)
      have HOL : Hid (os.length ≤ 60) := Lib.hid (by
       have h1 := HW.out.tot
       have h2 := pre_le ws (k + 1)
       rw [pre_succ hos] at h2
       omega)
      have hol : (os.length : Int) ≤ 60 := by have := HOL.out; omega
      subst hA
      clear hcell hro hos hb
      obtain ⟨gx, hgx⟩ : ∃ g, wo.heap.size = g := ⟨_, rfl⟩
      obtain ⟨W6, hW6⟩ : ∃ W6, wo.alloc (.cells #[.slice none 0 0] 38) = W6 := ⟨_, rfl⟩
      have b6 : Below gx wo W6 := by rw [← hW6, ← hgx]; exact (Below.refl _ _).alloc (Nat.le_refl _) _
      have X6 : Hid (W6.cell? ⟨gx, 0, none⟩ = some (.slice none 0 0) ∧ W6.frozen? ⟨gx, 0, none⟩ = false) := Lib.hid (by rw [← hW6, ← hgx]; exact ⟨by simp [go_sem], by simp [go_sem]⟩)
      have B6 := Lib.hid b6
      have HGX := Lib.hid hgx
      have b6' : Below wo.heap.size wo W6 := by rw [hgx]; exact b6
      have x1 := BelS.c b6' x0
      have x2 := BelS.c b6' ((S.out.bel.cell (p := ⟨b, o + k, none⟩) HCE.out.1).trans HCE.out.2)
      clear b6 b6'
      go_wp2_with fail
      clear hW6 x1 x0 x2 y0
      go_loopw [15] (fun u wi => ∃ (j : Nat) (xv : Value) (R : List Ou), u = .int .i64 j ∧ j ≤ os.length ∧ Below gx wo wi ∧ wi.cell? ⟨gx, 0, none⟩ = some xv ∧ wi.frozen? ⟨gx, 0, none⟩ = false ∧ DeepO (gx + 1) xv R wi ∧ R.map Ou.co = (os.take j).map (newO ws c0)) (fun u _ => os.length - (intOf u).toNat)
      case atStart => exact ⟨0, _, [], rfl, by omega, B6.out, X6.out.1, X6.out.2, DeepO.nil _ _, rfl⟩
      case round =>
       obtain ⟨j, xv, R, rfl, hj, hB, hx, hxf, hD, hco⟩ := hrel
       have HBI := Lib.hid hB
       have HXI := Lib.hid (And.intro hx hxf)
       have HDI := Lib.hid hD
       have HCO := Lib.hid hco
       obtain ⟨wi, rfl⟩ : ∃ wi, wi = wr := ⟨_, rfl⟩
       clear hB hx hxf hD hco
       have hbo : Below wo.heap.size wo wi := by rw [HGX.out]; exact HBI.out
       have SI := Lib.hid (S.out.below hbo)
       have x0 := SI.out.c
       have x1 := (SI.out.bel.cell (p := ⟨b, o + k, none⟩) HCE.out.1).trans HCE.out.2
       have HBO := Lib.hid hbo
       clear hbo
       by_cases hjl : j < os.length
       ·have hj0 : (j : Int) < (os.length : Int) := by omega
        have hj2 : (0 : Int) ≤ (j : Int) := by omega
        obtain ⟨oj, hoj⟩ : ∃ oj, os[j]? = some oj := ⟨_, List.getElem?_eq_getElem hjl⟩
        have HOJ := Lib.hid hoj
        obtain ⟨A2, c2, e2, -, hq⟩ := HRO.out
        obtain ⟨b2, o2, e3, hb2, hq⟩ := hq (by omega)
        simp only [Value.slice.injEq] at e2
        obtain ⟨e4, -, -⟩ := e2
        rw [e3] at e4
        subst e4
        obtain ⟨q0, q1, q2, q3, q4, q5, q6, q7⟩ := hq j oj hoj
        have HRI := Lib.hid q3
        have up := fun (i : Nat) u (h : w.cell? ⟨b2, i, none⟩ = some u) => (SI.out.bel.cell (p := ⟨b2, i, none⟩) hb2).trans h
        replace q0 := up _ _ q0
        replace q1 := up _ _ q1
        replace q2 := up _ _ q2
        replace q4 := up _ _ q4
        replace q5 := up _ _ q5
        replace q6 := up _ _ q6
        replace q7 := up _ _ q7
        clear up hq q3 hoj e3
        obtain ⟨Wa, hWa⟩ : ∃ Wa, wi.alloc (.cells #[.int .i64 oj.id, .int .i64 oj.into, .slice oj.pa oj.ps.length oj.pc, .int .i64 oj.k0, .int .i64 oj.k1, .int .i64 oj.s0, .int .i64 oj.s1] 42) = Wa := ⟨_, rfl⟩
        have ba : Below wi.heap.size wi Wa := by rw [← hWa]; exact (Below.refl _ _).alloc (Nat.le_refl _) _
        have bwa := SI.out.bel.trans (ba.mono SI.out.bel.size)
        have hza : Wa.heap.size = wi.heap.size + 1 := by rw [← hWa]; simp
        obtain ⟨v', Wc, r1, op, bc⟩ := copyI (W := Wa) (ri_rr HRI.out) bwa (HPS.out os (List.mem_of_getElem? HOS.out) oj (List.mem_of_getElem? HOJ.out))
        obtain ⟨Ap, cp, rfl, -⟩ := op.form
        have hgo : wi.heap.size < Wa.heap.size := by omega
        have dC : ∀ (i : Nat) u, Wa.cell? ⟨wi.heap.size, i, none⟩ = some u → Wc.cell? ⟨wi.heap.size, i, none⟩ = some u := fun i u h => (bc.cell (p := ⟨wi.heap.size, i, none⟩) hgo).trans h
        have dF : ∀ (i : Nat), Wa.frozen? ⟨wi.heap.size, i, none⟩ = false → Wc.frozen? ⟨wi.heap.size, i, none⟩ = false := fun i h => (bc.frozen (p := ⟨wi.heap.size, i, none⟩) hgo).trans h
        have a0 : Wa.cell? ⟨wi.heap.size, 0, none⟩ = some (.int .i64 oj.id) := by rw [← hWa]; simp [go_sem]
        have a1 : Wa.cell? ⟨wi.heap.size, 1, none⟩ = some (.int .i64 oj.into) := by rw [← hWa]; simp [go_sem]
        have a2 : Wa.cell? ⟨wi.heap.size, 2, none⟩ = some (.slice oj.pa oj.ps.length oj.pc) := by rw [← hWa]; simp [go_sem]
        have a3 : Wa.cell? ⟨wi.heap.size, 3, none⟩ = some (.int .i64 oj.k0) := by rw [← hWa]; simp [go_sem]
        have a4 : Wa.cell? ⟨wi.heap.size, 4, none⟩ = some (.int .i64 oj.k1) := by rw [← hWa]; simp [go_sem]
        have a5 : Wa.cell? ⟨wi.heap.size, 5, none⟩ = some (.int .i64 oj.s0) := by rw [← hWa]; simp [go_sem]
        have a6 : Wa.cell? ⟨wi.heap.size, 6, none⟩ = some (.int .i64 oj.s1) := by rw [← hWa]; simp [go_sem]
        have f1 : Wa.frozen? ⟨wi.heap.size, 1, none⟩ = false := by rw [← hWa]; simp [go_sem]
        have f2 : Wa.frozen? ⟨wi.heap.size, 2, none⟩ = false := by rw [← hWa]; simp [go_sem]
        obtain ⟨Wb, hWb⟩ : ∃ Wb, Wa.alloc (.cells #[] 3) = Wb := ⟨_, rfl⟩
        have a2b : Wb.cell? ⟨wi.heap.size, 2, none⟩ = some (.slice oj.pa oj.ps.length oj.pc) := by rw [← hWb]; exact BelS.c ((Below.refl _ _).alloc (Nat.le_refl _) _) a2
        rw [hWb] at r1
        have d2 := dC _ _ a2
        have d2f := dF _ f2
        obtain ⟨Wd, hWd⟩ : ∃ Wd, Wc.setCell ⟨wi.heap.size, 2, none⟩ (.slice Ap oj.ps.length cp) = Wd := ⟨_, rfl⟩
        have gd : GrownL [wi.heap.size] Wc Wd := by rw [← hWd]; exact GrownL.set _ _ _ (by simp)
        have dD : ∀ (i : Nat) u, i ≠ 2 → Wa.cell? ⟨wi.heap.size, i, none⟩ = some u → Wd.cell? ⟨wi.heap.size, i, none⟩ = some u := fun i u hi h => by rw [← hWd, World.cell?_setCell_other _ ⟨wi.heap.size, 2, none⟩ ⟨wi.heap.size, i, none⟩ _ (by simp <;> omega)]; exact dC i u h
        have bwd : Below wi.heap.size wi Wd := (ba.trans (bc.mono ba.size)).trans (gd.below (by simp) (by have := ba.size; have := bc.size; omega))
        have HOP0 : Hid (OwnG encI 1 3 (wi.heap.size + 1) (.slice Ap oj.ps.length cp) oj.ps Wd) := Lib.hid (by
         have h1 := op.grown gd (fun g hg hm => by have := (op.lt g hg).1; simp at hm; omega)
         rw [hza] at h1
         exact h1)
        have D := Lib.hid (And.intro (dD 0 _ (by decide) a0) (And.intro (dD 1 _ (by decide) a1) (And.intro (show Wd.cell? ⟨wi.heap.size, 2, none⟩ = some (.slice Ap oj.ps.length cp) by rw [← hWd]; exact World.cell?_setCell_same' _ _ _ (by rw [d2]; rfl)) (And.intro (dD 3 _ (by decide) a3) (And.intro (dD 4 _ (by decide) a4) (And.intro (dD 5 _ (by decide) a5) (And.intro (dD 6 _ (by decide) a6) (show Wd.frozen? ⟨wi.heap.size, 1, none⟩ = false by rw [← hWd]; exact (World.frozen?_setCell _ _ _ _).trans (dF _ f1)))))))))
        have BWD := Lib.hid bwd
        have R1 := Lib.hid r1
        have HGO : Hid (gx < wi.heap.size) := Lib.hid (World.block_lt_of_cell? _ _ HXI.out.1)
        clear ba bwa hza hgo dC dF dD a0 a1 a3 a4 a5 a6 f1 f2 gd bwd op r1 bc
        go_upto_region 29 with (at_builtin; refine Lib.wpList_append_run _ rfl _ _ _ _ rfl _ _ rfl rfl _ Wc R1.out ?_)
        clear hWa hWb a2b q0 q1 q2 q4 q5 q6 q7 a2 d2 d2f R1 hWd x0 x1
        obtain ⟨e0, e1, e2, e3, e4, e5, e6, e1f⟩ := D.out
        by_cases hin : oj.into < 0
        ·have hz : newTo ws c0 oj = oj.into := by unfold newTo; rw [if_neg (by omega)]
         have HZN := Lib.hid hz
         have hi0 : decide ((0 : Int) ≤ oj.into) = false := decide_eq_false (by omega)
         obtain ⟨We, hWe⟩ : ∃ We, We = Wd := ⟨_, rfl⟩
         have hbe := BWD.out
         rw [← hWe] at hbe e0 e1 e2 e3 e4 e5 e6 e1f ⊢
         have HOP : Hid (OwnG encI 1 3 (wi.heap.size + 1) (.slice Ap oj.ps.length cp) oj.ps We) := Lib.hid (by rw [hWe]; exact HOP0.out)
         clear hz hWe D
         have HXE := Lib.hid (And.intro (BelS.c hbe HXI.out.1) ((hbe.frozen (p := ⟨gx, 0, none⟩) (World.block_lt_of_cell? _ _ HXI.out.1)).trans HXI.out.2))
         have HDE := Lib.hid (HDI.out.below hbe)
         obtain ⟨Ax, cx, rfl, -⟩ := HDI.out.1.form
         obtain ⟨Wf, hWf⟩ : ∃ Wf, We.alloc (.cells #[.int .i64 oj.id, .int .i64 oj.into, .slice Ap oj.ps.length cp, .int .i64 oj.k0, .int .i64 oj.k1, .int .i64 oj.s0, .int .i64 oj.s1] 42) = Wf := ⟨_, rfl⟩
         have bf : Below We.heap.size We Wf := by rw [← hWf]; exact (Below.refl _ _).alloc (Nat.le_refl _) _
         obtain ⟨i1, hz1, hk0', hk1', hk2'⟩ := info_parts infoOutlet
         obtain ⟨v2, Wg, r2, o2, g2, d2⟩ := app1 (x := (⟨oj.id, oj.into, Ap, cp, oj.ps, oj.k0, oj.k1, oj.s0, oj.s1⟩ : Ou)) EO Try.underlying36 hz1 hk0' hk1' hk2' rfl (HDE.out.below bf).1 (q := We.heap.size) (fun i u hi => by
          match i, hi with
          | 0, hi => cases hi; rw [← hWf]; simp [go_sem]
          | 1, hi => cases hi; rw [← hWf]; simp [go_sem]
          | 2, hi => cases hi; rw [← hWf]; simp [go_sem]
          | 3, hi => cases hi; rw [← hWf]; simp [go_sem]
          | 4, hi => cases hi; rw [← hWf]; simp [go_sem]
          | 5, hi => cases hi; rw [← hWf]; simp [go_sem]
          | 6, hi => cases hi; rw [← hWf]; simp [go_sem]
          | i + 7, hi => simp [encO] at hi) (by have h8 := World.block_lt_of_cell? _ _ (BelS.c bf HXE.out.1); simp at h8; omega) (by have := congrArg List.length HCO.out; rw [List.length_map, List.length_map, List.length_take] at this; have := HOL.out; omega) (by decide)
         obtain ⟨A2, c2, rfl, -⟩ := o2.form
         obtain ⟨n2, hn2⟩ : ∃ n2, (R ++ [(⟨oj.id, oj.into, Ap, cp, oj.ps, oj.k0, oj.k1, oj.s0, oj.s1⟩ : Ou)]).length = n2 := ⟨_, rfl⟩
         rw [hn2] at r2 o2 d2
         clear hn2
         have hxg : gx ∉ (Value.slice Ax R.length cx).ownBlock.toList := fun hm => by have := (HDE.out.1.lt gx (by simpa using hm)).1; omega
         have u1 := g2.cell (BelS.c bf HXE.out.1) hxg
         have u2 := (World.frozen?_of_block (a := ⟨gx, 0, none⟩) (g2.block gx (World.block_lt_of_cell? _ _ (BelS.c bf HXE.out.1)) hxg)).trans ((bf.frozen (p := ⟨gx, 0, none⟩) (World.block_lt_of_cell? _ _ HXE.out.1)).trans HXE.out.2)
         have D2 := DeepO.app (x := (⟨oj.id, oj.into, Ap, cp, oj.ps, oj.k0, oj.k1, oj.s0, oj.s1⟩ : Ou)) (HDE.out.below bf) ((HOP.out.below bf).low (by have := HGO.out; omega)) (fun g hg hg2 => by have := (HDE.out.1.lt g hg).2; have h9 := (HOP.out.lt g hg2).1; have := (HDI.out.1.lt g hg).2; have := HGO.out; omega) o2 g2 d2
         obtain ⟨Wh, hWh⟩ : ∃ Wh, Wg.setCell ⟨gx, 0, none⟩ (.slice A2 n2 c2) = Wh := ⟨_, rfl⟩
         have gh : GrownL [gx] Wg Wh := by rw [← hWh]; exact GrownL.set _ _ _ (by simp)
         have D3 := Lib.hid (D2.older gh (by simp))
         have U3 : Hid (Wh.cell? ⟨gx, 0, none⟩ = some (.slice A2 n2 c2) ∧ Wh.frozen? ⟨gx, 0, none⟩ = false) := Lib.hid (by rw [← hWh]; exact ⟨World.cell?_setCell_same' _ _ _ (by rw [u1]; rfl), (World.frozen?_setCell _ _ _ _).trans u2⟩)
         have BH : Hid (Below gx wo Wh) := Lib.hid (by
          have h1 : Below gx wo We := HBI.out.trans (hbe.mono (by have := HBI.out.size; have := HGX.out; omega))
          have h2 : Below gx wo Wf := h1.trans (bf.mono (by have := h1.size; have := HGX.out; omega))
          have h3 : Below gx wo Wg := h2.trans (g2.below (fun g hg => by have := (HDE.out.1.lt g (by simpa using hg)).1; omega) (by have := h2.size; have := HGX.out; omega))
          exact h3.trans (gh.below (by simp) (by have := h3.size; have := HGX.out; omega)))
         have CO2 : Hid ((R ++ [(⟨oj.id, oj.into, Ap, cp, oj.ps, oj.k0, oj.k1, oj.s0, oj.s1⟩ : Ou)]).map Ou.co = (os.take (j + 1)).map (newO ws c0)) := Lib.hid (by
          rw [take_at HOJ.out, List.map_append, List.map_append, HCO.out, List.map_cons, List.map_cons]
          congr 2
          unfold newO Ou.co Ou.to
          rw [HZN.out])
         have R2 := Lib.hid r2
         have w1 := HXE.out.1
         clear bf g2 d2 o2 D2 hxg gh hbe r2 HXE HDE
         go_wp2_with (at_builtin; refine Lib.wpList_append_run _ rfl _ _ _ _ rfl _ _ rfl rfl _ Wg R2.out ?_)
         go_roundw
         case rel => exact ⟨j + 1, _, _, by go_num, by omega, BH.out, U3.out.1, U3.out.2, D3.out, CO2.out⟩
         case measure => show os.length - ((j : Int) + 1).toNat < os.length - (j : Int).toNat; omega
        ·obtain ⟨kk, hkk⟩ : ∃ kk : Nat, oj.into = kk := ⟨oj.into.toNat, by omega⟩
         have hkl2 : kk < ws.length := by
          obtain hp := allP_get HOS.out HOJ.out
          exact (HW.out.into_lt hp hkk).2
         have hk20 : (kk : Int) < (ws.length : Int) := by omega
         have hk21 : (0 : Int) ≤ (kk : Int) := by omega
         have HKK := Lib.hid hkk
         have hg := (GAT.out kk hkl2).1
         have hn := (GAT.out kk hkl2).2
         replace hg := BelS.c BWD.out (BelS.c HBO.out hg)
         replace hn := BelS.c BWD.out (BelS.c HBO.out hn)
         rw [hkk] at e1
         cases hgk : goneB ws c0 kk
         ·rw [hgk] at hg
          have hz : newTo ws c0 oj = (numN ws c0 kk : Int) := by unfold newTo numI; rw [hkk, if_pos (by omega), show ((kk : Int)).toNat = kk by omega, hgk]; rfl
          obtain ⟨nn, hnn⟩ : ∃ nn, numN ws c0 kk = nn := ⟨_, rfl⟩
          rw [hnn] at hz hn
          have HZN := Lib.hid hz
          obtain ⟨We, hWe⟩ : ∃ We, Wd.setCell ⟨wi.heap.size, 1, none⟩ (.int .i64 nn) = We := ⟨_, rfl⟩
          have ge : GrownL [wi.heap.size] Wd We := by rw [← hWe]; exact GrownL.set _ _ _ (by simp)
          have hbe : Below wi.heap.size wi We := BWD.out.trans (ge.below (by simp) BWD.out.size)
          have HOP : Hid (OwnG encI 1 3 (wi.heap.size + 1) (.slice Ap oj.ps.length cp) oj.ps We) := Lib.hid (HOP0.out.grown ge (fun g hg hm => by have := (HOP0.out.lt g hg).1; simp at hm; omega))
          have oth : ∀ (i : Nat) u, i ≠ 1 → Wd.cell? ⟨wi.heap.size, i, none⟩ = some u → We.cell? ⟨wi.heap.size, i, none⟩ = some u := fun i u hi h => by rw [← hWe, World.cell?_setCell_other _ ⟨wi.heap.size, 1, none⟩ ⟨wi.heap.size, i, none⟩ _ (by simp <;> omega)]; exact h
          have E1 := World.cell?_setCell_same' Wd ⟨wi.heap.size, 1, none⟩ (.int .i64 nn) (by rw [e1]; rfl)
          rw [hWe] at E1
          have E0 := oth 0 _ (by decide) e0
          have E2 := oth 2 _ (by decide) e2
          have E3 := oth 3 _ (by decide) e3
          have E4 := oth 4 _ (by decide) e4
          have E5 := oth 5 _ (by decide) e5
          have E6 := oth 6 _ (by decide) e6
          have hg' := BelS.c hbe (BelS.c HBO.out (GAT.out kk hkl2).1)
          have hn' := BelS.c hbe (BelS.c HBO.out (GAT.out kk hkl2).2)
          clear oth ge D
          rw [hgk] at hg'
          rw [hnn] at hn'
          clear hz hgk hnn hkk hkl2
          have HXE := Lib.hid (And.intro (BelS.c hbe HXI.out.1) ((hbe.frozen (p := ⟨gx, 0, none⟩) (World.block_lt_of_cell? _ _ HXI.out.1)).trans HXI.out.2))
          have HDE := Lib.hid (HDI.out.below hbe)
          obtain ⟨Ax, cx, rfl, -⟩ := HDI.out.1.form
          obtain ⟨Wf, hWf⟩ : ∃ Wf, We.alloc (.cells #[.int .i64 oj.id, .int .i64 nn, .slice Ap oj.ps.length cp, .int .i64 oj.k0, .int .i64 oj.k1, .int .i64 oj.s0, .int .i64 oj.s1] 42) = Wf := ⟨_, rfl⟩
          have bf : Below We.heap.size We Wf := by rw [← hWf]; exact (Below.refl _ _).alloc (Nat.le_refl _) _
          obtain ⟨i1, hz1, hk0', hk1', hk2'⟩ := info_parts infoOutlet
          obtain ⟨v2, Wg, r2, o2, g2, d2⟩ := app1 (x := (⟨oj.id, nn, Ap, cp, oj.ps, oj.k0, oj.k1, oj.s0, oj.s1⟩ : Ou)) EO Try.underlying36 hz1 hk0' hk1' hk2' rfl (HDE.out.below bf).1 (q := We.heap.size) (fun i u hi => by
           match i, hi with
           | 0, hi => cases hi; rw [← hWf]; simp [go_sem]
           | 1, hi => cases hi; rw [← hWf]; simp [go_sem]
           | 2, hi => cases hi; rw [← hWf]; simp [go_sem]
           | 3, hi => cases hi; rw [← hWf]; simp [go_sem]
           | 4, hi => cases hi; rw [← hWf]; simp [go_sem]
           | 5, hi => cases hi; rw [← hWf]; simp [go_sem]
           | 6, hi => cases hi; rw [← hWf]; simp [go_sem]
           | i + 7, hi => simp [encO] at hi) (by have h8 := World.block_lt_of_cell? _ _ (BelS.c bf HXE.out.1); simp at h8; omega) (by have := congrArg List.length HCO.out; rw [List.length_map, List.length_map, List.length_take] at this; have := HOL.out; omega) (by decide)
          obtain ⟨A2, c2, rfl, -⟩ := o2.form
          obtain ⟨n2, hn2⟩ : ∃ n2, (R ++ [(⟨oj.id, nn, Ap, cp, oj.ps, oj.k0, oj.k1, oj.s0, oj.s1⟩ : Ou)]).length = n2 := ⟨_, rfl⟩
          rw [hn2] at r2 o2 d2
          clear hn2
          have hxg : gx ∉ (Value.slice Ax R.length cx).ownBlock.toList := fun hm => by have := (HDE.out.1.lt gx (by simpa using hm)).1; omega
          have u1 := g2.cell (BelS.c bf HXE.out.1) hxg
          have u2 := (World.frozen?_of_block (a := ⟨gx, 0, none⟩) (g2.block gx (World.block_lt_of_cell? _ _ (BelS.c bf HXE.out.1)) hxg)).trans ((bf.frozen (p := ⟨gx, 0, none⟩) (World.block_lt_of_cell? _ _ HXE.out.1)).trans HXE.out.2)
          have D2 := DeepO.app (x := (⟨oj.id, nn, Ap, cp, oj.ps, oj.k0, oj.k1, oj.s0, oj.s1⟩ : Ou)) (HDE.out.below bf) ((HOP.out.below bf).low (by have := HGO.out; omega)) (fun g hg hg2 => by have := (HDE.out.1.lt g hg).2; have h9 := (HOP.out.lt g hg2).1; have := (HDI.out.1.lt g hg).2; have := HGO.out; omega) o2 g2 d2
          obtain ⟨Wh, hWh⟩ : ∃ Wh, Wg.setCell ⟨gx, 0, none⟩ (.slice A2 n2 c2) = Wh := ⟨_, rfl⟩
          have gh : GrownL [gx] Wg Wh := by rw [← hWh]; exact GrownL.set _ _ _ (by simp)
          have D3 := Lib.hid (D2.older gh (by simp))
          have U3 : Hid (Wh.cell? ⟨gx, 0, none⟩ = some (.slice A2 n2 c2) ∧ Wh.frozen? ⟨gx, 0, none⟩ = false) := Lib.hid (by rw [← hWh]; exact ⟨World.cell?_setCell_same' _ _ _ (by rw [u1]; rfl), (World.frozen?_setCell _ _ _ _).trans u2⟩)
          have BH : Hid (Below gx wo Wh) := Lib.hid (by
           have h1 : Below gx wo We := HBI.out.trans (hbe.mono (by have := HBI.out.size; have := HGX.out; omega))
           have h2 : Below gx wo Wf := h1.trans (bf.mono (by have := h1.size; have := HGX.out; omega))
           have h3 : Below gx wo Wg := h2.trans (g2.below (fun g hg => by have := (HDE.out.1.lt g (by simpa using hg)).1; omega) (by have := h2.size; have := HGX.out; omega))
           exact h3.trans (gh.below (by simp) (by have := h3.size; have := HGX.out; omega)))
          have CO2 : Hid ((R ++ [(⟨oj.id, nn, Ap, cp, oj.ps, oj.k0, oj.k1, oj.s0, oj.s1⟩ : Ou)]).map Ou.co = (os.take (j + 1)).map (newO ws c0)) := Lib.hid (by
           rw [take_at HOJ.out, List.map_append, List.map_append, HCO.out, List.map_cons, List.map_cons]
           congr 2
           unfold newO Ou.co Ou.to
           rw [HZN.out])
          have R2 := Lib.hid r2
          have w1 := HXE.out.1
          clear bf g2 d2 o2 D2 hxg gh hbe r2 HXE HDE
          go_wp2_with (at_builtin; refine Lib.wpList_append_run _ rfl _ _ _ _ rfl _ _ rfl rfl _ Wg R2.out ?_)
          go_roundw
          case rel => exact ⟨j + 1, _, _, by go_num, by omega, BH.out, U3.out.1, U3.out.2, D3.out, CO2.out⟩
          case measure => show os.length - ((j : Int) + 1).toNat < os.length - (j : Int).toNat; omega
         ·rw [hgk] at hg
          have hz : newTo ws c0 oj = -1 := by unfold newTo numI; rw [hkk, if_pos (by omega), show ((kk : Int)).toNat = kk by omega, hgk]; rfl
          have HZN := Lib.hid hz
          obtain ⟨We, hWe⟩ : ∃ We, Wd.setCell ⟨wi.heap.size, 1, none⟩ (.int .i64 (-1)) = We := ⟨_, rfl⟩
          have ge : GrownL [wi.heap.size] Wd We := by rw [← hWe]; exact GrownL.set _ _ _ (by simp)
          have hbe : Below wi.heap.size wi We := BWD.out.trans (ge.below (by simp) BWD.out.size)
          have HOP : Hid (OwnG encI 1 3 (wi.heap.size + 1) (.slice Ap oj.ps.length cp) oj.ps We) := Lib.hid (HOP0.out.grown ge (fun g hg hm => by have := (HOP0.out.lt g hg).1; simp at hm; omega))
          have oth : ∀ (i : Nat) u, i ≠ 1 → Wd.cell? ⟨wi.heap.size, i, none⟩ = some u → We.cell? ⟨wi.heap.size, i, none⟩ = some u := fun i u hi h => by rw [← hWe, World.cell?_setCell_other _ ⟨wi.heap.size, 1, none⟩ ⟨wi.heap.size, i, none⟩ _ (by simp <;> omega)]; exact h
          have E1 := World.cell?_setCell_same' Wd ⟨wi.heap.size, 1, none⟩ (.int .i64 (-1)) (by rw [e1]; rfl)
          rw [hWe] at E1
          have E0 := oth 0 _ (by decide) e0
          have E2 := oth 2 _ (by decide) e2
          have E3 := oth 3 _ (by decide) e3
          have E4 := oth 4 _ (by decide) e4
          have E5 := oth 5 _ (by decide) e5
          have E6 := oth 6 _ (by decide) e6
          have hg' := BelS.c hbe (BelS.c HBO.out (GAT.out kk hkl2).1)
          have hn' := BelS.c hbe (BelS.c HBO.out (GAT.out kk hkl2).2)
          clear oth ge D
          clear hg' hn'
          clear hz hgk hkk hkl2 hn
          have HXE := Lib.hid (And.intro (BelS.c hbe HXI.out.1) ((hbe.frozen (p := ⟨gx, 0, none⟩) (World.block_lt_of_cell? _ _ HXI.out.1)).trans HXI.out.2))
          have HDE := Lib.hid (HDI.out.below hbe)
          obtain ⟨Ax, cx, rfl, -⟩ := HDI.out.1.form
          obtain ⟨Wf, hWf⟩ : ∃ Wf, We.alloc (.cells #[.int .i64 oj.id, .int .i64 (-1), .slice Ap oj.ps.length cp, .int .i64 oj.k0, .int .i64 oj.k1, .int .i64 oj.s0, .int .i64 oj.s1] 42) = Wf := ⟨_, rfl⟩
          have bf : Below We.heap.size We Wf := by rw [← hWf]; exact (Below.refl _ _).alloc (Nat.le_refl _) _
          obtain ⟨i1, hz1, hk0', hk1', hk2'⟩ := info_parts infoOutlet
          obtain ⟨v2, Wg, r2, o2, g2, d2⟩ := app1 (x := (⟨oj.id, (-1), Ap, cp, oj.ps, oj.k0, oj.k1, oj.s0, oj.s1⟩ : Ou)) EO Try.underlying36 hz1 hk0' hk1' hk2' rfl (HDE.out.below bf).1 (q := We.heap.size) (fun i u hi => by
           match i, hi with
           | 0, hi => cases hi; rw [← hWf]; simp [go_sem]
           | 1, hi => cases hi; rw [← hWf]; simp [go_sem]
           | 2, hi => cases hi; rw [← hWf]; simp [go_sem]
           | 3, hi => cases hi; rw [← hWf]; simp [go_sem]
           | 4, hi => cases hi; rw [← hWf]; simp [go_sem]
           | 5, hi => cases hi; rw [← hWf]; simp [go_sem]
           | 6, hi => cases hi; rw [← hWf]; simp [go_sem]
           | i + 7, hi => simp [encO] at hi) (by have h8 := World.block_lt_of_cell? _ _ (BelS.c bf HXE.out.1); simp at h8; omega) (by have := congrArg List.length HCO.out; rw [List.length_map, List.length_map, List.length_take] at this; have := HOL.out; omega) (by decide)
          obtain ⟨A2, c2, rfl, -⟩ := o2.form
          obtain ⟨n2, hn2⟩ : ∃ n2, (R ++ [(⟨oj.id, (-1), Ap, cp, oj.ps, oj.k0, oj.k1, oj.s0, oj.s1⟩ : Ou)]).length = n2 := ⟨_, rfl⟩
          rw [hn2] at r2 o2 d2
          clear hn2
          have hxg : gx ∉ (Value.slice Ax R.length cx).ownBlock.toList := fun hm => by have := (HDE.out.1.lt gx (by simpa using hm)).1; omega
          have u1 := g2.cell (BelS.c bf HXE.out.1) hxg
          have u2 := (World.frozen?_of_block (a := ⟨gx, 0, none⟩) (g2.block gx (World.block_lt_of_cell? _ _ (BelS.c bf HXE.out.1)) hxg)).trans ((bf.frozen (p := ⟨gx, 0, none⟩) (World.block_lt_of_cell? _ _ HXE.out.1)).trans HXE.out.2)
          have D2 := DeepO.app (x := (⟨oj.id, (-1), Ap, cp, oj.ps, oj.k0, oj.k1, oj.s0, oj.s1⟩ : Ou)) (HDE.out.below bf) ((HOP.out.below bf).low (by have := HGO.out; omega)) (fun g hg hg2 => by have := (HDE.out.1.lt g hg).2; have h9 := (HOP.out.lt g hg2).1; have := (HDI.out.1.lt g hg).2; have := HGO.out; omega) o2 g2 d2
          obtain ⟨Wh, hWh⟩ : ∃ Wh, Wg.setCell ⟨gx, 0, none⟩ (.slice A2 n2 c2) = Wh := ⟨_, rfl⟩
          have gh : GrownL [gx] Wg Wh := by rw [← hWh]; exact GrownL.set _ _ _ (by simp)
          have D3 := Lib.hid (D2.older gh (by simp))
          have U3 : Hid (Wh.cell? ⟨gx, 0, none⟩ = some (.slice A2 n2 c2) ∧ Wh.frozen? ⟨gx, 0, none⟩ = false) := Lib.hid (by rw [← hWh]; exact ⟨World.cell?_setCell_same' _ _ _ (by rw [u1]; rfl), (World.frozen?_setCell _ _ _ _).trans u2⟩)
          have BH : Hid (Below gx wo Wh) := Lib.hid (by
           have h1 : Below gx wo We := HBI.out.trans (hbe.mono (by have := HBI.out.size; have := HGX.out; omega))
           have h2 : Below gx wo Wf := h1.trans (bf.mono (by have := h1.size; have := HGX.out; omega))
           have h3 : Below gx wo Wg := h2.trans (g2.below (fun g hg => by have := (HDE.out.1.lt g (by simpa using hg)).1; omega) (by have := h2.size; have := HGX.out; omega))
           exact h3.trans (gh.below (by simp) (by have := h3.size; have := HGX.out; omega)))
          have CO2 : Hid ((R ++ [(⟨oj.id, (-1), Ap, cp, oj.ps, oj.k0, oj.k1, oj.s0, oj.s1⟩ : Ou)]).map Ou.co = (os.take (j + 1)).map (newO ws c0)) := Lib.hid (by
           rw [take_at HOJ.out, List.map_append, List.map_append, HCO.out, List.map_cons, List.map_cons]
           congr 2
           unfold newO Ou.co Ou.to
           rw [HZN.out])
          have R2 := Lib.hid r2
          have w1 := HXE.out.1
          clear bf g2 d2 o2 D2 hxg gh hbe r2 HXE HDE
          go_wp2_with (at_builtin; refine Lib.wpList_append_run _ rfl _ _ _ _ rfl _ _ rfl rfl _ Wg R2.out ?_)
          go_roundw
          case rel => exact ⟨j + 1, _, _, by go_num, by omega, BH.out, U3.out.1, U3.out.2, D3.out, CO2.out⟩
          case measure => show os.length - ((j : Int) + 1).toNat < os.length - (j : Int).toNat; omega
       ·have hj0 : (os.length : Int) ≤ (j : Int) := by omega
        obtain rfl : j = os.length := by omega
        have y0 := BelS.c HBO.out HO.out.l
        have HOI := Lib.hid (HO.out.below HBO.out)
        obtain ⟨Ax, cx, rfl, -⟩ := HDI.out.1.form
        obtain ⟨Al, cl, rfl, -⟩ := HO.out.dp.1.form
        have hRl : R.length = os.length := by have := congrArg List.length HCO.out; rw [List.length_map, List.length_map, List.take_length] at this; exact this
        have hLl : L.length = numN ws c0 k := by have := congrArg List.length HWO.out; rw [List.length_map, List.length_map, wOut_len] at this; exact this
        have hnl := numN_le ws c0 k
        have KR : KrOk (g12 + 1) (.slice Al L.length cl) ⟨Ax, cx, R⟩ wi := DeepO.kr HDI.out (by have := HZR.out; have := HGX.out; omega) (fun g hg => by have := (HO.out.dp.1.lt g hg).2; have := HGX.out; omega) (by have := HOL.out; omega) (fun x hx => by
         have : x.co ∈ os.map (newO ws c0) := by have h9 := HCO.out; rw [List.take_length] at h9; rw [← h9]; exact List.mem_map_of_mem hx
         obtain ⟨y, hy, e⟩ := List.mem_map.1 this
         have e2 := (ouB_co e.symm).2.2.2.1
         rw [e2]
         have := HPS.out os (List.mem_of_getElem? HOS.out) y hy
         omega)
        obtain ⟨Wf, hWf⟩ : ∃ Wf, wi.alloc (.cells #[.slice Ax R.length cx] 38) = Wf := ⟨_, rfl⟩
        have bf : Below wi.heap.size wi Wf := by rw [← hWf]; exact (Below.refl _ _).alloc (Nat.le_refl _) _
        obtain ⟨i1, hz1, hk0', hk1', hk2'⟩ := info_parts infoCarrier
        obtain ⟨v2, Wg, r2, o2, g2, d2⟩ := app1 (x := (⟨Ax, cx, R⟩ : Kr)) EK Try.underlying22 hz1 hk0' hk1' hk2' rfl (HOI.out.dp.below bf).1 (q := wi.heap.size) (fun i u hi => by
         match i, hi with
         | 0, hi => cases hi; rw [← hWf]; simp [go_sem]
         | i + 1, hi => simp [encK] at hi) (by have h8 := World.block_lt_of_cell? _ _ (BelS.c bf HOI.out.l); simp at h8; omega) (by omega) (by decide)
        have D2 := (HOI.out.dp.below bf).app (KR.below bf) o2 g2 d2
        obtain ⟨A2, c2, rfl, -⟩ := o2.form
        obtain ⟨n2, hn2⟩ : ∃ n2, (L ++ [(⟨Ax, cx, R⟩ : Kr)]).length = n2 := ⟨_, rfl⟩
        rw [hn2] at r2 D2
        clear hn2
        have hxg : g12 ∉ (Value.slice Al L.length cl).ownBlock.toList := fun hm => by have := (HO.out.dp.1.lt g12 (by simpa using hm)).1; omega
        have u1 := g2.cell (BelS.c bf HOI.out.l) hxg
        have u2 := (World.frozen?_of_block (a := ⟨g12, 0, none⟩) (g2.block g12 (World.block_lt_of_cell? _ _ (BelS.c bf HOI.out.l)) hxg)).trans ((bf.frozen (p := ⟨g12, 0, none⟩) (World.block_lt_of_cell? _ _ HOI.out.l)).trans HOI.out.lf)
        obtain ⟨Wh, hWh⟩ : ∃ Wh, Wg.setCell ⟨g12, 0, none⟩ (.slice A2 n2 c2) = Wh := ⟨_, rfl⟩
        have gh : GrownL [g12] Wg Wh := by rw [← hWh]; exact GrownL.set _ _ _ (by simp)
        have OH : Hid (OutL g12 (.slice A2 n2 c2) (L ++ [⟨Ax, cx, R⟩]) Wh) := Lib.hid ⟨by rw [← hWh]; exact World.cell?_setCell_same' _ _ _ (by rw [u1]; rfl), by rw [← hWh]; exact (World.frozen?_setCell _ _ _ _).trans u2, D2.older gh (by simp)⟩
        have BH : Hid (Below g12 w5 Wh) := Lib.hid (by
         have h0 := HB.out
         have h1 : Below g12 w5 wi := h0.trans (HBO.out.mono (by have := h0.size; have := HZ.out.2; omega))
         have h2 : Below g12 w5 Wf := h1.trans (bf.mono (by have := h1.size; have := HZ.out.2; omega))
         have h3 : Below g12 w5 Wg := h2.trans (g2.below (fun g hg => by have := (HO.out.dp.1.lt g (by simpa using hg)).1; omega) (by have := h2.size; have := HZ.out.2; omega))
         exact h3.trans (gh.below (by simp) (by have := h3.size; have := HZ.out.2; omega)))
        have R2 := Lib.hid r2
        have w1 := HXI.out.1
        clear bf g2 d2 o2 D2 hxg gh r2 KR HOI hRl hLl hnl
        go_wp2_with (at_builtin; refine Lib.wpList_append_run _ rfl _ _ _ _ rfl _ _ rfl rfl _ Wg R2.out ?_)
        go_roundw
        case rel => exact ⟨k + 1, _, _, by go_num, by omega, BH.out, OH.out, by
         rw [wOut_left HGK.out HOS.out, ← HWO.out, List.map_append, List.map_append]
         congr 1
         show [R.map Ou.co] = _
         rw [HCO.out, List.take_length]⟩
        case measure => show ws.length - ((k : Int) + 1).toNat < ws.length - (k : Int).toNat; omega
     ·have HGK := Lib.hid hg
      rw [hg] at y0
      clear hg
      go_wp2_with fail
      go_roundw
      case rel => exact ⟨k + 1, lv, L, by go_num, by omega, HB.out, HO.out, by rw [wOut_gone HGK.out]; exact HWO.out⟩
      case measure => show ws.length - ((k : Int) + 1).toNat < ws.length - (k : Int).toNat; omega
    ·have hk0 : (ws.length : Int) ≤ (k : Int) := by omega
     obtain rfl : k = ws.length := by omega
     have hlv : ∃ Al cl, lv = .slice Al L.length cl := by obtain ⟨Al, cl, e, -⟩ := HO.out.dp.1.form; exact ⟨Al, cl, e⟩
     obtain ⟨Al, cl, rfl⟩ := hlv
     have y0 := HO.out.l
     have z0 := S.out.r0
     have z1 := S.out.r1
     have z2 := S.out.f0
     have z3 := S.out.f1
     go_wp2_with fail
     have g1 : GrownL [w.heap.size + 1] wo ((wo.setCell ⟨w.heap.size + 1, 0, none⟩ (.slice Al L.length cl)).setCell ⟨w.heap.size + 1, 1, none⟩ (.int .i64 0)) := (GrownL.set (bs := [w.heap.size + 1]) _ _ _ (by simp)).trans (GrownL.set _ _ _ (by simp))
     have p1 : ((wo.setCell ⟨w.heap.size + 1, 0, none⟩ (.slice Al L.length cl)).setCell ⟨w.heap.size + 1, 1, none⟩ (.int .i64 0)).cell? ⟨w.heap.size + 1, 1, none⟩ = some (.int .i64 0) := World.cell?_setCell_same' _ _ _ (by rw [World.cell?_setCell_other _ ⟨w.heap.size + 1, 0, none⟩ ⟨w.heap.size + 1, 1, none⟩ _ (by simp), z1]; rfl)
     have p0 : ((wo.setCell ⟨w.heap.size + 1, 0, none⟩ (.slice Al L.length cl)).setCell ⟨w.heap.size + 1, 1, none⟩ (.int .i64 0)).cell? ⟨w.heap.size + 1, 0, none⟩ = some (.slice Al L.length cl) := by rw [World.cell?_setCell_other _ ⟨w.heap.size + 1, 1, none⟩ ⟨w.heap.size + 1, 0, none⟩ _ (by simp)]; exact World.cell?_setCell_same' _ _ _ (by rw [z0]; rfl)
     obtain ⟨Wf, hWf⟩ : ∃ Wf, (wo.setCell ⟨w.heap.size + 1, 0, none⟩ (.slice Al L.length cl)).setCell ⟨w.heap.size + 1, 1, none⟩ (.int .i64 0) = Wf := ⟨_, rfl⟩
     rw [hWf] at g1 p0 p1 ⊢
     have hz := HZ.out
     have hz2 := HGG.out
     refine bodyPost_ret (v := .agg #[.slice Al L.length cl, .int .i64 0]) (by simp [results, Try.results74, go_sem, p0, p1]) rfl ?_
     exact ⟨_, _, rfl, ⟨L, (HO.out.dp.older g1 (by simp; omega)).lower (by omega), .inr (.inr ⟨rfl, c0, rfl, hc0, rfl, HWO.out⟩)⟩, S.out.bel.trans (g1.below (by simp) S.out.bel.size)⟩
end Go.Proofs.Ytkoacclbempmdaa
