/- Contract of run. -/
import Derived.Test.YtkoacclbempmdaaOO7
namespace Go.Proofs.Ytkoacclbempmdaa
open Go.RowKit
attribute [local go_sem] Oper.semAt_some

theorem FsA.setT {g c : Nat} {f : FS} {W : World} (h : FsA g f W) (hc : c < 16) (y : Int) : FsA g ⟨fun d => if d = c then y else f.t d, f.thr, f.lost⟩ (W.setCell ⟨g, 60 + c, none⟩ (.int .i64 y)) := by
 have oth : ∀ i, i ≠ 60 + c → (W.setCell ⟨g, 60 + c, none⟩ (.int .i64 y)).cell? ⟨g, i, none⟩ = W.cell? ⟨g, i, none⟩ := fun i hi => World.cell?_setCell_other _ ⟨g, 60 + c, none⟩ ⟨g, i, none⟩ _ (by simp <;> omega)
 refine ⟨fun i hi => (oth i (by omega)).trans (h.thr i hi), fun d hd => ?_, (oth _ (by omega)).trans h.lost, fun i => (World.frozen?_setCell _ _ _ _).trans (h.fz i)⟩
 show _ = some (Value.int .i64 (if d = c then y else f.t d))
 by_cases e : d = c
 ·subst e
  rw [if_pos rfl]
  exact World.cell?_setCell_same' _ _ _ (by rw [h.t d hd]; rfl)
 ·rw [if_neg e]
  exact (oth _ (by omega)).trans (h.t d hd)
theorem FsA.setThr {g i : Nat} {f : FS} {W : World} (h : FsA g f W) (hi : i < 60) (hl : f.thr.length = i) (y : Int) : FsA g ⟨f.t, f.thr ++ [y], f.lost⟩ (W.setCell ⟨g, i, none⟩ (.int .i64 y)) := by
 have oth : ∀ j, j ≠ i → (W.setCell ⟨g, i, none⟩ (.int .i64 y)).cell? ⟨g, j, none⟩ = W.cell? ⟨g, j, none⟩ := fun j hj => World.cell?_setCell_other _ ⟨g, i, none⟩ ⟨g, j, none⟩ _ (by simp <;> omega)
 refine ⟨fun j hj => ?_, fun d hd => (oth _ (by omega)).trans (h.t d hd), (oth _ (by omega)).trans h.lost, fun j => (World.frozen?_setCell _ _ _ _).trans (h.fz j)⟩
 simp only [List.getD_eq_getElem?_getD]
 rcases Nat.lt_trichotomy j i with e | rfl | e
 ·rw [oth j (by omega), h.thr j hj, List.getD_eq_getElem?_getD, List.getElem?_append_left (by omega)]
 ·rw [List.getElem?_append_right (by omega), show j - f.thr.length = 0 by omega]
  exact World.cell?_setCell_same' _ _ _ (by rw [h.thr j hj]; rfl)
 ·rw [oth j (by omega), h.thr j hj, List.getD_eq_getElem?_getD, List.getElem?_eq_none (by omega), List.getElem?_eq_none (by simp; omega)]
theorem FsA.setLost {g : Nat} {f : FS} {W : World} (h : FsA g f W) (y : Int) : FsA g ⟨f.t, f.thr, y⟩ (W.setCell ⟨g, 76, none⟩ (.int .i64 y)) := by
 have oth : ∀ j, j ≠ 76 → (W.setCell ⟨g, 76, none⟩ (.int .i64 y)).cell? ⟨g, j, none⟩ = W.cell? ⟨g, j, none⟩ := fun j hj => World.cell?_setCell_other _ ⟨g, 76, none⟩ ⟨g, j, none⟩ _ (by simp <;> omega)
 exact ⟨fun j hj => (oth _ (by omega)).trans (h.thr j hj), fun d hd => (oth _ (by omega)).trans (h.t d hd), World.cell?_setCell_same' _ _ _ (by rw [h.lost]; rfl), fun j => (World.frozen?_setCell _ _ _ _).trans (h.fz j)⟩
theorem FsA.congr {g : Nat} {f f' : FS} {W : World} (h : FsA g f W) (h1 : ∀ c, f'.t c = f.t c) (h2 : f'.thr = f.thr) (h3 : f'.lost = f.lost) : FsA g f' W := by
 obtain ⟨a, b, c⟩ := f'
 obtain ⟨a', b', c'⟩ := f
 obtain rfl : a = a' := funext h1
 simp only at h2 h3
 subst h2 h3
 exact h
/-- What run keeps besides what flows. -/
structure RnS (w : World) (v a b c d : Value) (f : FS) (W : World) : Prop where
 wk : W.cell? ⟨w.heap.size, 0, none⟩ = some v
 r : W.cell? ⟨w.heap.size + 1, 0, none⟩ = some a
 b : W.cell? ⟨w.heap.size + 1, 1, none⟩ = some b
 k : W.cell? ⟨w.heap.size + 1, 2, none⟩ = some c
 l : W.cell? ⟨w.heap.size + 1, 3, none⟩ = some d
 res : FsA (w.heap.size + 1 + 1) ⟨fun _ => 0, [], 0⟩ W
 f : FsA (w.heap.size + 1 + 1 + 1) f W
 bel : Below w.heap.size w W
theorem RnS.siz {w W : World} {v a b c d : Value} {f : FS} (h : RnS w v a b c d f W) : w.heap.size + 4 ≤ W.heap.size := h.f.lt
theorem RnS.grown {w W W' : World} {v a b c d : Value} {f : FS} {bs : List Nat} (h : RnS w v a b c d f W) (hg : GrownL bs W W') (hn : ∀ k ∈ bs, w.heap.size + 4 ≤ k) : RnS w v a b c d f W' := by
 have nb : ∀ k, k ≤ w.heap.size + 3 → k ∉ bs := fun k hk hm => by have := hn k hm; omega
 exact ⟨hg.cell h.wk (nb _ (by show w.heap.size ≤ _; omega)), hg.cell h.r (nb _ (by show w.heap.size + 1 ≤ _; omega)), hg.cell h.b (nb _ (by show w.heap.size + 1 ≤ _; omega)), hg.cell h.k (nb _ (by show w.heap.size + 1 ≤ _; omega)), hg.cell h.l (nb _ (by show w.heap.size + 1 ≤ _; omega)),
  h.res.grown hg (nb _ (by omega)), h.f.grown hg (nb _ (by omega)), h.bel.trans (hg.below (fun b hb => by have := hn b hb; omega) h.bel.size)⟩
theorem RnS.below {w W W' : World} {v a b c d : Value} {f : FS} (h : RnS w v a b c d f W) (hb : Below W.heap.size W W') : RnS w v a b c d f W' := h.grown (GrownL.of_below (bs := []) hb) (by simp)

theorem FsA.there {g : Nat} {f : FS} {W : World} (h : FsA g f W) : W.there g 0 77 := fun j hj => by
 rw [Nat.zero_add]
 refine ⟨?_, h.fz j⟩
 have := h.range j
 obtain ⟨v, hv⟩ : ∃ v, (fsL f)[j]? = some v := ⟨_, List.getElem?_eq_getElem (by rw [fsL_len]; exact hj)⟩
 have := h.range j v hv
 rw [Nat.zero_add] at this
 rw [this]
 rfl
theorem GrownL.setCells (bs : List Nat) (b : Nat) : ∀ (vs : List Value) (o : Nat) (W : World), b ∈ bs → GrownL bs W (W.setCells b o vs)
 | [], _, _, _ => GrownL.refl _ _
 | v :: vs, o, W, h => (GrownL.set W ⟨b, o, none⟩ v h).trans (GrownL.setCells bs b vs (o + 1) _ h)
theorem run_cells {g pb ob : Nat} {p : Pl} {f : FS} {W : World} (hf : FsA g f W) (hp : PlC pb p W) (ho : OuC ob p.o W) (n1 : g ≠ pb) (n2 : g ≠ ob) (h60 : p.at_ < 60) (hc : p.c < 16) (hl : f.thr.length = p.at_) (v1 v2 v3 : Int) :
  (W.setCell ⟨g, 76, none⟩ (.int .i64 v1)).cell? ⟨pb, 0, none⟩ = some (.int .i64 p.at_) ∧ (W.setCell ⟨g, 76, none⟩ (.int .i64 v1)).cell? ⟨g, p.at_, none⟩ = some (.int .i64 (f.thr.getD p.at_ 0)) ∧
  ((W.setCell ⟨g, 76, none⟩ (.int .i64 v1)).setCell ⟨g, p.at_, none⟩ (.int .i64 v2)).cell? ⟨pb, 1, none⟩ = some (.int .i64 p.c) ∧ ((W.setCell ⟨g, 76, none⟩ (.int .i64 v1)).setCell ⟨g, p.at_, none⟩ (.int .i64 v2)).cell? ⟨g, 60 + p.c, none⟩ = some (.int .i64 (f.t p.c)) ∧
  (((W.setCell ⟨g, 76, none⟩ (.int .i64 v1)).setCell ⟨g, p.at_, none⟩ (.int .i64 v2)).setCell ⟨g, 60 + p.c, none⟩ (.int .i64 v3)).cell? ⟨ob, 1, none⟩ = some (.int .i64 p.o.into) ∧
  (∀ k, k < 16 → (((W.setCell ⟨g, 76, none⟩ (.int .i64 v1)).setCell ⟨g, p.at_, none⟩ (.int .i64 v2)).setCell ⟨g, 60 + p.c, none⟩ (.int .i64 v3)).cell? ⟨g, 60 + k, none⟩ = some (.int .i64 (if k = p.c then v3 else f.t k))) := by
 have f1 := hf.setLost v1
 have f2 := f1.setThr h60 hl v2
 have f3 := f2.setT hc v3
 have g1 : GrownL [g] W (W.setCell ⟨g, 76, none⟩ (.int .i64 v1)) := GrownL.set _ _ _ (by simp)
 have g2 : GrownL [g] W _ := g1.trans (GrownL.set (W.setCell ⟨g, 76, none⟩ (.int .i64 v1)) ⟨g, p.at_, none⟩ (.int .i64 v2) (by simp))
 have g3 : GrownL [g] W _ := g2.trans (GrownL.set ((W.setCell ⟨g, 76, none⟩ (.int .i64 v1)).setCell ⟨g, p.at_, none⟩ (.int .i64 v2)) ⟨g, 60 + p.c, none⟩ (.int .i64 v3) (by simp))
 have m1 : pb ∉ [g] := by simp; omega
 have m2 : ob ∉ [g] := by simp; omega
 exact ⟨(hp.grown g1 m1).at_, f1.thr _ h60, (hp.grown g2 m1).c, f2.t _ hc, (ho.grown g3 m2).into, fun k hk => f3.t k hk⟩
theorem RnS.set {w W W' : World} {v a b c d : Value} {f f' : FS} (h : RnS w v a b c d f W) (hg : GrownL [w.heap.size + 3] W W') (hf : FsA (w.heap.size + 1 + 1 + 1) f' W') : RnS w v a b c d f' W' := by
 have nb : ∀ k, k ≠ w.heap.size + 3 → k ∉ [w.heap.size + 3] := fun k hk hm => hk (by simpa using hm)
 exact ⟨hg.cell h.wk (nb _ (by show w.heap.size ≠ _; omega)), hg.cell h.r (nb _ (by show w.heap.size + 1 ≠ _; omega)), hg.cell h.b (nb _ (by show w.heap.size + 1 ≠ _; omega)), hg.cell h.k (nb _ (by show w.heap.size + 1 ≠ _; omega)), hg.cell h.l (nb _ (by show w.heap.size + 1 ≠ _; omega)),
  h.res.grown hg (nb _ (by omega)), hf, h.bel.trans (hg.below (fun b hb => by simp at hb; omega) h.bel.size)⟩
theorem RnS.next {w W : World} {v a b c d : Value} {f : FS} {s : Wa} {p : Pl} (h : RnS w v a b c d f W) (h60 : p.at_ < 60) (hc : p.c < 16) (hl : f.thr.length = p.at_) {v1 v2 v3 : Int} (e1 : v1 = f.lost + lostS s f p) (e2 : v2 = thrS s f p) (e3 : v3 = f.t p.c - lostS s f p - thrS s f p) :
  (p.o.into < 0 → RnS w v a b c d (stepF s f p) (((W.setCell ⟨w.heap.size + 1 + 1 + 1, 76, none⟩ (.int .i64 v1)).setCell ⟨w.heap.size + 1 + 1 + 1, p.at_, none⟩ (.int .i64 v2)).setCell ⟨w.heap.size + 1 + 1 + 1, 60 + p.c, none⟩ (.int .i64 v3)) ∧ GrownL [w.heap.size + 3] W (((W.setCell ⟨w.heap.size + 1 + 1 + 1, 76, none⟩ (.int .i64 v1)).setCell ⟨w.heap.size + 1 + 1 + 1, p.at_, none⟩ (.int .i64 v2)).setCell ⟨w.heap.size + 1 + 1 + 1, 60 + p.c, none⟩ (.int .i64 v3))) ∧
  (∀ k : Nat, k < 16 → p.o.into = k → RnS w v a b c d (stepF s f p) ((((W.setCell ⟨w.heap.size + 1 + 1 + 1, 76, none⟩ (.int .i64 v1)).setCell ⟨w.heap.size + 1 + 1 + 1, p.at_, none⟩ (.int .i64 v2)).setCell ⟨w.heap.size + 1 + 1 + 1, 60 + p.c, none⟩ (.int .i64 v3)).setCell ⟨w.heap.size + 1 + 1 + 1, 60 + k, none⟩ (.int .i64 v2)) ∧ GrownL [w.heap.size + 3] W ((((W.setCell ⟨w.heap.size + 1 + 1 + 1, 76, none⟩ (.int .i64 v1)).setCell ⟨w.heap.size + 1 + 1 + 1, p.at_, none⟩ (.int .i64 v2)).setCell ⟨w.heap.size + 1 + 1 + 1, 60 + p.c, none⟩ (.int .i64 v3)).setCell ⟨w.heap.size + 1 + 1 + 1, 60 + k, none⟩ (.int .i64 v2))) := by
 subst e1 e2 e3
 have f3 := ((h.f.setLost (f.lost + lostS s f p)).setThr h60 hl (thrS s f p)).setT hc (f.t p.c - lostS s f p - thrS s f p)
 have g3 : GrownL [w.heap.size + 3] W _ := ((GrownL.set W ⟨w.heap.size + 1 + 1 + 1, 76, none⟩ (.int .i64 (f.lost + lostS s f p)) (by simp)).trans (GrownL.set _ ⟨w.heap.size + 1 + 1 + 1, p.at_, none⟩ (.int .i64 (thrS s f p)) (by simp))).trans (GrownL.set _ ⟨w.heap.size + 1 + 1 + 1, 60 + p.c, none⟩ (.int .i64 (f.t p.c - lostS s f p - thrS s f p)) (by simp))
 refine ⟨fun hi => ⟨h.set g3 (f3.congr (fun e => ?_) rfl rfl), g3⟩, fun k hk hi => ⟨h.set (g3.trans (GrownL.set _ ⟨w.heap.size + 1 + 1 + 1, 60 + k, none⟩ (.int .i64 (thrS s f p)) (by simp))) ((f3.setT hk (thrS s f p)).congr (fun e => ?_) rfl rfl), g3.trans (GrownL.set _ ⟨w.heap.size + 1 + 1 + 1, 60 + k, none⟩ (.int .i64 (thrS s f p)) (by simp))⟩⟩
 ·show (if (e : Int) = p.o.into then _ else if e = p.c then _ else f.t e) = if e = p.c then _ else f.t e
  rw [if_neg (by omega)]
 ·show (if (e : Int) = p.o.into then _ else if e = p.c then _ else f.t e) = if e = k then _ else if e = p.c then _ else f.t e
  by_cases hek : e = k
  ·rw [if_pos (by omega), if_pos hek]
  ·rw [if_neg (by omega), if_neg hek]
set_option maxRecDepth 1000000 in
theorem zero123 : Try.zeroCells123 = Array.replicate 77 (.int .i64 0) := by kernel_rfl
theorem FsA.zero {W : World} {g : Nat} (hg : g = W.heap.size) : FsA g ⟨fun _ => 0, [], 0⟩ (W.alloc (.cells Try.zeroCells123 123)) := by
 subst hg
 have hb := World.alloc_heap_new W (.cells Try.zeroCells123 123)
 have hc : ∀ i, i < 77 → (W.alloc (.cells Try.zeroCells123 123)).cell? ⟨W.heap.size, i, none⟩ = some (.int .i64 0) := fun i hi => by
  rw [cell_of_row _ _ i _ _ _ hb, zero123]
  simp [hi]
 exact ⟨fun i hi => by rw [hc i (by omega)]; simp, fun c hc' => hc _ (by omega), hc _ (by omega), fun i => by unfold World.frozen?; rw [hb]; simp⟩
theorem headsL_len {ws : Wk} (hw : WOk ws) : (headsL ws).length ≤ 16 := by
 have := hw.len
 unfold headsL headsN
 rw [List.length_map]
 have := List.length_filter_le (fun c => !fedB (allP ws) c) (List.range ws.length)
 rw [List.length_range] at this
 omega

set_option maxHeartbeats 16000000 in
set_option maxRecDepth 1000000 in
theorem run_any (A : Option Addr) (c : Nat) (wv : Value) (ws : Wk) (s : Wa) (w : World) (h : RK w.heap.size (.slice A ws.length c) ws w) (hs : RWa w.heap.size wv s w) (hw : WOk ws) (ho : WaOk ws s) :
  Calls Try.prog 79 #[.agg #[.slice A ws.length c], wv] w fun e w' => e = .returned (.agg (fsL (flowF ws s)).toArray) ∧ Below w.heap.size w w' := by
 obtain ⟨A1, c1, A2, c2, A3, c3, A4, c4, rfl⟩ := hs.form
 have H := Lib.hid h
 have HS := Lib.hid hs
 have HW := Lib.hid hw
 have HO := Lib.hid ho
 have C1 := Lib.hid fun W (hb : Below w.heap.size w W) => heads_any A ws.length c ws W (h.up hb.size hb) hw
 clear h hs hw ho
 refine (callsIn_wide (n := 3)).1 ?_
 refine callsIn_of_wp_marks Try.func79 rfl trivial ?_ rfl
 simp only [Try.ntmps79, List.size_toArray, List.length_cons, List.length_nil, Nat.reduceAdd, Nat.reduceSub, Array.replicate_succ, Array.replicate_zero, List.push_toArray, List.append_toArray, List.nil_append, List.cons_append]
 gi_wp2_with fail
 refine ⟨trivial, (callsIn_wide.2 (C1.out _ ?b)).mono ?_⟩
 case b => exact ((((Below.refl _ _).alloc (Nat.le_refl _) _).alloc (by simp) _).alloc (by simp; omega) _).alloc (by simp; omega) _
 rintro e w1 ⟨hv, rfl, hvo, b1⟩
 have S1 : Hid (RnS w (.slice A ws.length c) (.slice A1 s.river.length c1) (.slice A2 s.boards.length c2) (.slice A3 s.leaks.length c3) (.slice A4 s.losses.length c4) ⟨startN ws s 0, [], 0⟩ w1) := Lib.hid (by
  rw [startN_zero]
  refine RnS.below ⟨by simp [go_sem], by simp [go_sem], by simp [go_sem], by simp [go_sem], by simp [go_sem], ?_, ?_, ((((Below.refl _ _).alloc (Nat.le_refl _) _).alloc (by simp) _).alloc (by simp; omega) _).alloc (by simp; omega) _⟩ b1
  ·exact (FsA.zero (W := (w.alloc _).alloc _) (g := _) (by simp)).grown (bs := []) (GrownL.of_below ((Below.refl _ _).alloc (Nat.le_refl _) _)) (by simp)
  ·exact FsA.zero (by simp))
 have HV : Hid (RR encI w1.heap.size hv (headsL ws) w1) := Lib.hid (hvo.rr EI (by have := headsL_len HW.out; omega))
 obtain ⟨Ah, ch, rfl, -⟩ := hvo.form
 have HBH : Hid (∀ g, Value.ownBlock (.slice Ah (headsL ws).length ch) = some g → w.heap.size + 4 ≤ g) := Lib.hid fun g hg => by have := (hvo.lt g hg).1; simp at this; omega
 have hhl := headsL_len HW.out
 have hrl : s.river.length = (headsL ws).length := by rw [HO.out.r]; simp [headsL]
 have HRL := Lib.hid hrl
 obtain ⟨nh, hnh⟩ : ∃ nh, (headsL ws).length = nh := ⟨_, rfl⟩
 have HNH := Lib.hid hnh
 rw [hnh] at HV hhl HBH ⊢
 have hh0 : (nh : Int) ≤ 16 := by omega
 clear b1 hvo hrl hnh C1
 gi_wp2_with fail
 gi_loopw [16] (fun u wr => ∃ i : Nat, u = .int .i64 i ∧ i ≤ nh ∧ RnS w (.slice A ws.length c) (.slice A1 s.river.length c1) (.slice A2 s.boards.length c2) (.slice A3 s.leaks.length c3) (.slice A4 s.losses.length c4) ⟨startN ws s i, [], 0⟩ wr ∧ GrownL [w.heap.size + 3] w1 wr) (fun u _ => nh - (intOf u).toNat)
 case atStart => exact ⟨0, rfl, by omega, S1.out, GrownL.refl _ _⟩
 case round =>
  obtain ⟨i, rfl, hi, hS, hg⟩ := hrel
  have SS := Lib.hid hS
  have HG := Lib.hid hg
  clear hS hg
  by_cases hil : i < nh
  ·have hi0 : (i : Int) < (nh : Int) := by omega
   obtain ⟨x, hx⟩ : ∃ x, (headsN ws)[i]? = some x := ⟨_, List.getElem?_eq_getElem (by have := HNH.out; simp [headsL] at this; omega)⟩
   have hx16 : x < 16 := by have := headsN_lt (List.mem_of_getElem? hx); have := HW.out.len; omega
   have hxl : (headsL ws)[i]? = some (x : Int) := by unfold headsL; rw [List.getElem?_map, hx]; rfl
   obtain ⟨y, hy⟩ : ∃ y, s.river[i]? = some y := ⟨_, List.getElem?_eq_getElem (by have := HNH.out; have := HRL.out; omega)⟩
   have HX := Lib.hid hx
   have HY := Lib.hid hy
   have hri : (i : Int) < (s.river.length : Int) := by have := HNH.out; have := HRL.out; omega
   obtain ⟨bh, oh, rfl, hbh, q0⟩ := HV.out.int hxl
   have hbh3 := HBH.out bh (by simp [Value.ownBlock])
   have q0 : wr.cell? ⟨bh, oh + i, none⟩ = some (.int .i64 x) := HG.out.cell q0 (by simp; omega)
   obtain ⟨br, or_, rfl, hbr, q1⟩ := (HS.out.parts.1.up SS.out.bel.size SS.out.bel).int hy
   have q2 := SS.out.r
   have q3 := SS.out.f.t x hx16
   have q4 := SS.out.f.fz (60 + x)
   have hx0 : (x : Int) < 16 := by omega
   have hx1 : (0 : Int) ≤ (x : Int) := by omega
   clear hx hy hxl
   gi_wp2_with fail
   go_roundw
   case rel =>
    have gs : GrownL [w.heap.size + 3] wr (wr.setCell ⟨w.heap.size + 1 + 1 + 1, 60 + x, none⟩ (.int .i64 y)) := GrownL.set _ _ _ (by simp)
    refine ⟨i + 1, by go_num, by omega, SS.out.set gs ((SS.out.f.setT hx16 y).congr (fun d => ?_) rfl rfl), HG.out.trans gs⟩
    exact startN_succ s HX.out HY.out d
   case measure => show nh - ((i : Int) + 1).toNat < nh - (i : Int).toNat; omega
  ·have hi0 : (nh : Int) ≤ (i : Int) := by omega
   have SS2 : Hid (RnS w (.slice A ws.length c) (.slice A1 s.river.length c1) (.slice A2 s.boards.length c2) (.slice A3 s.leaks.length c3) (.slice A4 s.losses.length c4) (flowTo ws s 0) wr) := Lib.hid (by
    rw [flowTo_zero, ← startN_all ws s (i := i) (by have := HNH.out; simp [headsL] at this; omega)]
    exact SS.out)
   have t0 := SS.out.wk
   clear SS HG
   gi_wp2_with fail
   refine ⟨trivial, (callsIn_wide.2 (places_any A ws.length c _)).mono ?_⟩
   rintro e w2 ⟨rfl, rfl⟩
   obtain ⟨W0, hW0⟩ : ∃ W0, wr.alloc (.cells #[.slice A ws.length c] 24) = W0 := ⟨_, rfl⟩
   have hz0 : W0.heap.size = wr.heap.size + 1 := by rw [← hW0]; simp
   have S0 : Hid (RnS w (.slice A ws.length c) (.slice A1 s.river.length c1) (.slice A2 s.boards.length c2) (.slice A3 s.leaks.length c3) (.slice A4 s.losses.length c4) (flowTo ws s 0) W0) := Lib.hid (by rw [← hW0]; exact SS2.out.below ((Below.refl _ _).alloc (Nat.le_refl _) _))
   have K0 : Hid (W0.cell? ⟨wr.heap.size, 0, none⟩ = some (.slice A ws.length c)) := Lib.hid (by rw [← hW0]; simp [go_sem])
   have HZ := Lib.hid hz0
   have HWR : Hid (w.heap.size + 4 ≤ wr.heap.size) := Lib.hid SS2.out.siz
   clear hz0 SS2 t0
   gi_wp2_with fail
   try rw [hW0]
   refine wpIn_rangeP (gf := 132) (lb := #[.pointer (some ⟨wr.heap.size, 0, none⟩)]) rfl enters_places1
    (placesP_seq w W0 wr.heap.size A ws.length c ws H.out (by have := HW.out.tot; omega) (by have := HW.out.len; omega)) (Below.refl _ _) (fun _ => rfl)
    (fun p W => RnS w (.slice A ws.length c) (.slice A1 s.river.length c1) (.slice A2 s.boards.length c2) (.slice A3 s.leaks.length c3) (.slice A4 s.losses.length c4) (flowTo ws s p.length) W ∧ W.cell? ⟨wr.heap.size, 0, none⟩ = some (.slice A ws.length c)) (fun _ _ _ => False) (fun _ _ h => ⟨h.1.bel, h.2⟩) ?h0 ?hI (fun _ _ _ _ h _ => h) ?round ?done (fun _ _ _ _ h _ => h.elim)
   case h0 =>
    intro W' hb hsz
    exact ⟨S0.out.below hb, (hb.cell (p := ⟨wr.heap.size, 0, none⟩) (by have := HZ.out; show wr.heap.size < _; omega)).trans K0.out⟩
   case hI =>
    rintro p W1 W2 hi hg
    exact ⟨hi.1.grown hg (fun b hb => by have := HZ.out; have := HWR.out; simp at hb; omega), hg.cell hi.2 (by have := HZ.out; simp; omega)⟩
   case round =>
    rintro pre x W ⟨hi, hkw⟩ hsz hsp
    have HI := Lib.hid hi
    have HK := Lib.hid hkw
    have HSP := Lib.hid (sp_next hsp)
    clear hi hsp hkw
    obtain ⟨xa, xc, xn, x⟩ := x
    dsimp only [encP]
    gi_wp2_with fail
    refine ⟨Keeps.of_below (((Below.refl _ _).alloc (Nat.le_refl _) _).alloc (by simp) _), fun W2 hg2 hl2 => ?_⟩
    obtain ⟨hP, hO, hg, hz2⟩ := po_cells hg2 (by have := HZ.out; omega)
    have HZW : Hid (wr.heap.size + 3 ≤ W.heap.size) := Lib.hid (by have := HZ.out; omega)
    have I2 := Lib.hid (HI.out.grown hg (fun b hb => by have := HZ.out; have := HWR.out; simp at hb; omega))
    have K2 := Lib.hid (hg.cell HK.out (by have := HZ.out; simp; omega))
    have PP := Lib.hid hP
    have OO := Lib.hid hO
    have Z2 := Lib.hid hz2
    clear HI HK hP hO hg hz2 hg2 hl2 hsz
    obtain ⟨n, hxn, hpre, hnl, hnt⟩ := HSP.out
    subst hpre
    rw [← hnl] at I2
    have hat : xa = n := (allP_inv hxn).1
    subst hat
    have hc16 : xc < 16 := by
     obtain ⟨-, os, h1, -, -⟩ := allP_inv hxn
     have h9 : xc < ws.length := (List.getElem?_eq_some_iff.1 h1).1
     have := HW.out.len
     omega
    have hn60 : xa < 60 := by have := HW.out.tot; omega
    obtain ⟨b, k, l, cp, hb, hk, hl, hcp, hbl, c0, c1', k0, k1, l0, l1, ecap, elo⟩ := HO.out.at_ HW.out hxn
    simp only at hcp hbl
    obtain ⟨fs, hfs⟩ : ∃ fs, flowTo ws s xa = fs := ⟨_, rfl⟩
    have hFB := FB.flow HO.out HW.out xa (by omega)
    have hstep := flowTo_succ s hxn
    have hthl := thr_len ws s xa (by omega)
    have hFS := hFB.step HO.out HW.out hxn
    rw [hfs] at hFB hstep hthl I2 hFS
    unfold lostS thrS at hFS
    rw [ecap, elo] at hFS
    simp only at hFS
    obtain ⟨FBN, f1, f2, f3, f4, f5, f6⟩ := hFS
    have HFBN := Lib.hid FBN
    have HSTEP := Lib.hid hstep
    have HTHL := Lib.hid hthl
    obtain ⟨t0, t1⟩ := hFB.t xc
    have L0 := hFB.l0
    have L1 := hFB.l1
    rw [hthl] at L1
    obtain ⟨br, or_, rfl, hbr, qb⟩ := (HS.out.parts.2.1.up I2.out.bel.size I2.out.bel).int hb
    obtain ⟨bk, ok, rfl, hbk, qk⟩ := (HS.out.parts.2.2.1.up I2.out.bel.size I2.out.bel).int hk
    obtain ⟨bl, ol, rfl, hbl', ql⟩ := (HS.out.parts.2.2.2.up I2.out.bel.size I2.out.bel).int hl
    have HPS := outs_ps H.out x (List.mem_of_getElem? (outs_get hxn).1)
    obtain ⟨bp, op, hpa, hbp, qp⟩ := RI.int (A := x.pa) (n := x.ps.length) (c := x.pc) HPS hcp
    have qp := (I2.out.bel.cell (p := ⟨bp, op + b, none⟩) hbp).trans qp
    have o2 := OO.out.pv
    rw [hpa] at o2
    have o1 := OO.out.into
    have p0 := PP.out.at_
    have p1 := PP.out.c
    simp only at p0 p1
    have s1 := I2.out.b
    have s2 := I2.out.k
    have s3 := I2.out.l
    have e1 := I2.out.f.t xc hc16
    obtain ⟨hh, hhe⟩ : ∃ hh, fs.t xc = hh := ⟨_, rfl⟩
    rw [hhe] at f1 f2 f3 f4 f5 f6 t0 t1 e1
    obtain ⟨L, hL⟩ : ∃ L, lostS s fs ⟨xa, xc, xn, x⟩ = L := ⟨_, rfl⟩
    obtain ⟨T, hT⟩ : ∃ T, thrS s fs ⟨xa, xc, xn, x⟩ = T := ⟨_, rfl⟩
    rw [hL] at f4 f5 f6
    have hL2 : min hh l = L := by rw [← hL]; unfold lostS; rw [elo, ← hhe]
    have hT2 : min (hh - L) (cp + k) = T := by rw [← hT]; unfold thrS; rw [ecap, hL, ← hhe]
    rw [hL2] at f1 f2 f3 f6
    rw [hT2] at f4 f5 f6
    have hxc0 : (xc : Int) < 16 := by omega
    have hxc1 : (0 : Int) ≤ (xc : Int) := by omega
    have hxa0 : (xa : Int) < 60 := by omega
    have hxa1 : (0 : Int) ≤ (xa : Int) := by omega
    have lb : (xa : Int) < (s.boards.length : Int) := by have := (List.getElem?_eq_some_iff.1 hb).1; omega
    have lk : (xa : Int) < (s.leaks.length : Int) := by have := (List.getElem?_eq_some_iff.1 hk).1; omega
    have ll : (xa : Int) < (s.losses.length : Int) := by have := (List.getElem?_eq_some_iff.1 hl).1; omega
    have lp : (b : Int) < (x.ps.length : Int) := by omega
    have HXN := Lib.hid hxn
    have HHE := Lib.hid hhe
    have HLL := Lib.hid hL
    have HTT := Lib.hid hT
    have HFS := Lib.hid hfs
    have HNL := Lib.hid hnl
    have HPA := Lib.hid hpa
    have HIN := Lib.hid (HW.out.into (List.mem_of_getElem? hxn))
    clear hxn hstep hthl hhe hL hT hfs hFB FBN hb hk hl hcp ecap elo hnl HPS hpa HSP
    obtain ⟨lo, hlo⟩ : ∃ lo, fs.lost = lo := ⟨_, rfl⟩
    have e2 := I2.out.f.lost
    rw [hlo] at e2 L0 L1
    have HLO := Lib.hid hlo
    clear hlo
    have e3 := I2.out.f.thr xa hn60
    have HN0 : Hid (w.heap.size + 1 + 1 + 1 ∉ [W.heap.size] ∧ w.heap.size + 1 + 1 + 1 ∉ [W.heap.size + 1]) := Lib.hid (by have := HZW.out; have := HWR.out; simp; omega)
    obtain ⟨z3, hz3⟩ : ∃ z3, fs.thr.getD xa 0 = z3 := ⟨_, rfl⟩
    rw [hz3] at e3
    clear hz3
    obtain ⟨W3, hW3⟩ : ∃ W3, W2.drew = W3 := ⟨_, rfl⟩
    have g23 : GrownL [] W2 W3 := by rw [← hW3]; exact (GrownL.refl _ _).drew
    have I3 := Lib.hid (I2.out.grown g23 (by simp))
    have PP3 := Lib.hid (PP.out.grown g23 (by simp))
    have OO3 := Lib.hid (OO.out.grown g23 (by simp))
    have K3 := Lib.hid (g23.cell K2.out (by simp))
    have HW3 := Lib.hid hW3
    have HLEN : Hid ((List.take xa (allP ws) ++ [(⟨xa, xc, xn, x⟩ : Pl)]).length = xa + 1) := Lib.hid (by rw [List.length_append, ← HNL.out]; rfl)
    clear hW3
    have w1' : IntKind.i64.wrap (hh - L) = hh - L := IntWalk.i64_in _ (by omega)
    have w2' : IntKind.i64.wrap (cp + k) = cp + k := IntWalk.i64_in _ (by omega)
    have w3' : (Int.toNat (xa : Int)) = xa := by omega
    rcases (by omega : (¬ hh ≤ l ∧ ¬ hh - l ≤ cp + k) ∨ (¬ hh ≤ l ∧ hh - l ≤ cp + k) ∨ hh ≤ l) with ⟨h1, h2⟩ | ⟨h1, h2⟩ | h1
    ·obtain rfl : L = l := by omega
     obtain rfl : T = cp + k := by omega
     gi_wp2_with fail
     refine wpIn_region_held (open_round _) (S := (· = W2.drew)) (by kernel_rfl) (by kernel_rfl) rfl (fun J0 => ?_)
     refine tw 0 47 J0 ?_ (hy := by intro w' hSw; rw [show w' = W2.drew from hSw]; go_simp; try with_reducible rfl)
     try simp only [aS]
     refine tw 1 48 J0 ?_ (hy := by intro w' hSw; rw [show w' = W2.drew from hSw]; go_simp; try with_reducible rfl)
     try simp only [aS]
     refine tw 2 49 J0 ?_ (hy := by intro w' hSw; rw [show w' = W2.drew from hSw]; go_simp; try with_reducible rfl)
     try simp only [aS]
     refine tw 3 50 J0 ?_ (hy := by intro w' hSw; rw [show w' = W2.drew from hSw]; go_simp; try with_reducible rfl)
     try simp only [aS]
     refine tw 4 51 J0 ?_ (hy := by intro w' hSw; rw [show w' = W2.drew from hSw]; go_simp; try with_reducible rfl)
     try simp only [aS]
     refine tw 5 52 J0 ?_ (hy := by intro w' hSw; rw [show w' = W2.drew from hSw]; go_simp; try with_reducible rfl)
     try simp only [aS]
     refine tw 6 53 J0 ?_ (hy := by intro w' hSw; rw [show w' = W2.drew from hSw]; go_simp; try with_reducible rfl)
     try simp only [aS]
     refine tw 7 54 J0 ?_ (hy := by intro w' hSw; rw [show w' = W2.drew from hSw]; go_simp; try with_reducible rfl)
     try simp only [aS]
     refine tw 8 55 J0 ?_ (hy := by intro w' hSw; rw [show w' = W2.drew from hSw]; go_simp; try with_reducible rfl)
     try simp only [aS]
     refine tw 9 56 J0 ?_ (hy := by intro w' hSw; rw [show w' = W2.drew from hSw]; go_simp; try with_reducible rfl)
     try simp only [aS]
     refine tw 10 57 J0 ?_ (hy := by intro w' hSw; rw [show w' = W2.drew from hSw]; go_simp; try with_reducible rfl)
     try simp only [aS]
     refine tw 11 58 J0 ?_ (hy := by intro w' hSw; rw [show w' = W2.drew from hSw]; go_simp; try with_reducible rfl)
     try simp only [aS]
     refine tw 12 59 J0 ?_ (hy := by intro w' hSw; rw [show w' = W2.drew from hSw]; go_simp; try with_reducible rfl)
     try simp only [aS]
     refine tw 13 60 J0 ?_ (hy := by intro w' hSw; rw [show w' = W2.drew from hSw]; go_simp; try with_reducible rfl)
     try simp only [aS]
     refine tw 14 61 J0 ?_ (hy := by intro w' hSw; rw [show w' = W2.drew from hSw]; go_simp; try with_reducible rfl)
     try simp only [aS]
     refine tw 15 62 J0 ?_ (hy := by intro w' hSw; rw [show w' = W2.drew from hSw]; go_simp; try with_reducible rfl)
     try simp only [aS]
     refine tw 16 63 J0 ?_ (hy := by intro w' hSw; rw [show w' = W2.drew from hSw]; go_simp; try with_reducible rfl)
     try simp only [aS]
     refine tw 17 64 J0 ?_ (hy := by intro w' hSw; rw [show w' = W2.drew from hSw]; go_simp; try with_reducible rfl)
     try simp only [aS]
     refine tw 18 65 J0 ?_ (hy := by intro w' hSw; rw [show w' = W2.drew from hSw]; go_simp; try with_reducible rfl)
     try simp only [aS]
     refine tw 19 66 J0 ?_ (hy := by intro w' hSw; rw [show w' = W2.drew from hSw]; go_simp; try with_reducible rfl)
     try simp only [aS]
     refine tw 20 67 J0 ?_ (hy := by intro w' hSw; rw [show w' = W2.drew from hSw]; go_simp; try with_reducible rfl)
     try simp only [aS]
     refine tw 21 12 J0 ?_ (hy := by intro w' hSw; rw [show w' = W2.drew from hSw]; go_simp; try with_reducible rfl)
     try simp only [aS]
     refine heldN_done (by kernel_rfl) ?_ _
     rw [HW3.out]
     obtain ⟨x0, x1, x2, x3, x4, x5⟩ := run_cells I3.out.f PP3.out OO3.out (by have := HZW.out; have := HWR.out; omega) (by have := HZW.out; have := HWR.out; omega) hn60 hc16 HTHL.out (lo + L) (cp + k) (hh - L - (cp + k))
     simp only at x0 x1 x2 x3 x4 x5
     rw [HHE.out] at x3
     generalize fs.thr.getD xa 0 = z3 at x1
     have y0 := I3.out.f.lost
     rw [HLO.out] at y0
     have y1 := I3.out.f.fz 76
     have y2 := I3.out.f.fz xa
     have y3 := I3.out.f.fz (60 + xc)
     have N5 := Lib.hid (I3.out.next (s := s) (p := ⟨xa, xc, xn, x⟩) hn60 hc16 HTHL.out (v1 := lo + L) (v2 := cp + k) (v3 := hh - L - (cp + k)) (by rw [HLO.out, HLL.out]) (by rw [HTT.out]; try omega) (by rw [HLL.out, HTT.out]; simp only [HHE.out]; try omega))
     rcases HIN.out with hin | ⟨kk, hin, -, -, hkk⟩
     ·have hin : x.into = _ := hin
      rw [hin] at x4
      clear x5
      gi_wp2_with fail
      have NN := N5.out.1 (by show x.into < 0; omega)
      exact ⟨Keeps.of_grown ((g23.mono (by simp)).trans NN.2) (fun o ho hm => by have := HZ.out; have := HWR.out; simp at ho hm; omega), by rw [HLEN.out, HSTEP.out]; exact NN.1, NN.2.cell K3.out (by have := HWR.out; simp; omega)⟩
     ·have hin : x.into = _ := hin
      rw [hin] at x4
      have x6 := x5 kk hkk
      have y4 := I3.out.f.fz (60 + kk)
      have hkk0 : (kk : Int) < 16 := by omega
      have hkk1 : (0 : Int) ≤ (kk : Int) := by omega
      generalize (if kk = xc then hh - L - (cp + k) else fs.t kk) = z6 at x6
      clear x5
      gi_wp2_with fail
      have NN := N5.out.2 kk hkk hin
      exact ⟨Keeps.of_grown ((g23.mono (by simp)).trans NN.2) (fun o ho hm => by have := HZ.out; have := HWR.out; simp at ho hm; omega), by rw [HLEN.out, HSTEP.out]; exact NN.1, NN.2.cell K3.out (by have := HWR.out; simp; omega)⟩
    ·obtain rfl : L = l := by omega
     obtain rfl : T = hh - L := by omega
     gi_wp2_with fail
     refine wpIn_region_held (open_round _) (S := (· = W2.drew)) (by kernel_rfl) (by kernel_rfl) rfl (fun J0 => ?_)
     refine tw 0 47 J0 ?_ (hy := by intro w' hSw; rw [show w' = W2.drew from hSw]; go_simp; try with_reducible rfl)
     try simp only [aS]
     refine tw 1 48 J0 ?_ (hy := by intro w' hSw; rw [show w' = W2.drew from hSw]; go_simp; try with_reducible rfl)
     try simp only [aS]
     refine tw 2 49 J0 ?_ (hy := by intro w' hSw; rw [show w' = W2.drew from hSw]; go_simp; try with_reducible rfl)
     try simp only [aS]
     refine tw 3 50 J0 ?_ (hy := by intro w' hSw; rw [show w' = W2.drew from hSw]; go_simp; try with_reducible rfl)
     try simp only [aS]
     refine tw 4 51 J0 ?_ (hy := by intro w' hSw; rw [show w' = W2.drew from hSw]; go_simp; try with_reducible rfl)
     try simp only [aS]
     refine tw 5 52 J0 ?_ (hy := by intro w' hSw; rw [show w' = W2.drew from hSw]; go_simp; try with_reducible rfl)
     try simp only [aS]
     refine tw 6 53 J0 ?_ (hy := by intro w' hSw; rw [show w' = W2.drew from hSw]; go_simp; try with_reducible rfl)
     try simp only [aS]
     refine tw 7 54 J0 ?_ (hy := by intro w' hSw; rw [show w' = W2.drew from hSw]; go_simp; try with_reducible rfl)
     try simp only [aS]
     refine tw 8 55 J0 ?_ (hy := by intro w' hSw; rw [show w' = W2.drew from hSw]; go_simp; try with_reducible rfl)
     try simp only [aS]
     refine tw 9 56 J0 ?_ (hy := by intro w' hSw; rw [show w' = W2.drew from hSw]; go_simp; try with_reducible rfl)
     try simp only [aS]
     refine tw 10 57 J0 ?_ (hy := by intro w' hSw; rw [show w' = W2.drew from hSw]; go_simp; try with_reducible rfl)
     try simp only [aS]
     refine tw 11 58 J0 ?_ (hy := by intro w' hSw; rw [show w' = W2.drew from hSw]; go_simp; try with_reducible rfl)
     try simp only [aS]
     refine tw 12 59 J0 ?_ (hy := by intro w' hSw; rw [show w' = W2.drew from hSw]; go_simp; try with_reducible rfl)
     try simp only [aS]
     refine tw 13 60 J0 ?_ (hy := by intro w' hSw; rw [show w' = W2.drew from hSw]; go_simp; try with_reducible rfl)
     try simp only [aS]
     refine tw 14 61 J0 ?_ (hy := by intro w' hSw; rw [show w' = W2.drew from hSw]; go_simp; try with_reducible rfl)
     try simp only [aS]
     refine tw 15 62 J0 ?_ (hy := by intro w' hSw; rw [show w' = W2.drew from hSw]; go_simp; try with_reducible rfl)
     try simp only [aS]
     refine tw 16 63 J0 ?_ (hy := by intro w' hSw; rw [show w' = W2.drew from hSw]; go_simp; try with_reducible rfl)
     try simp only [aS]
     refine tw 17 64 J0 ?_ (hy := by intro w' hSw; rw [show w' = W2.drew from hSw]; go_simp; try with_reducible rfl)
     try simp only [aS]
     refine tw 18 65 J0 ?_ (hy := by intro w' hSw; rw [show w' = W2.drew from hSw]; go_simp; try with_reducible rfl)
     try simp only [aS]
     refine tw 19 66 J0 ?_ (hy := by intro w' hSw; rw [show w' = W2.drew from hSw]; go_simp; try with_reducible rfl)
     try simp only [aS]
     refine tw 20 67 J0 ?_ (hy := by intro w' hSw; rw [show w' = W2.drew from hSw]; go_simp; try with_reducible rfl)
     try simp only [aS]
     refine tw 21 12 J0 ?_ (hy := by intro w' hSw; rw [show w' = W2.drew from hSw]; go_simp; try with_reducible rfl)
     try simp only [aS]
     refine heldN_done (by kernel_rfl) ?_ _
     rw [HW3.out]
     obtain ⟨x0, x1, x2, x3, x4, x5⟩ := run_cells I3.out.f PP3.out OO3.out (by have := HZW.out; have := HWR.out; omega) (by have := HZW.out; have := HWR.out; omega) hn60 hc16 HTHL.out (lo + L) (hh - L) (0)
     simp only at x0 x1 x2 x3 x4 x5
     rw [HHE.out] at x3
     generalize fs.thr.getD xa 0 = z3 at x1
     have y0 := I3.out.f.lost
     rw [HLO.out] at y0
     have y1 := I3.out.f.fz 76
     have y2 := I3.out.f.fz xa
     have y3 := I3.out.f.fz (60 + xc)
     have N5 := Lib.hid (I3.out.next (s := s) (p := ⟨xa, xc, xn, x⟩) hn60 hc16 HTHL.out (v1 := lo + L) (v2 := hh - L) (v3 := 0) (by rw [HLO.out, HLL.out]) (by rw [HTT.out]; try omega) (by rw [HLL.out, HTT.out]; simp only [HHE.out]; try omega))
     rcases HIN.out with hin | ⟨kk, hin, -, -, hkk⟩
     ·have hin : x.into = _ := hin
      rw [hin] at x4
      clear x5
      gi_wp2_with fail
      have NN := N5.out.1 (by show x.into < 0; omega)
      exact ⟨Keeps.of_grown ((g23.mono (by simp)).trans NN.2) (fun o ho hm => by have := HZ.out; have := HWR.out; simp at ho hm; omega), by rw [HLEN.out, HSTEP.out]; exact NN.1, NN.2.cell K3.out (by have := HWR.out; simp; omega)⟩
     ·have hin : x.into = _ := hin
      rw [hin] at x4
      have x6 := x5 kk hkk
      have y4 := I3.out.f.fz (60 + kk)
      have hkk0 : (kk : Int) < 16 := by omega
      have hkk1 : (0 : Int) ≤ (kk : Int) := by omega
      generalize (if kk = xc then 0 else fs.t kk) = z6 at x6
      clear x5
      gi_wp2_with fail
      have NN := N5.out.2 kk hkk hin
      exact ⟨Keeps.of_grown ((g23.mono (by simp)).trans NN.2) (fun o ho hm => by have := HZ.out; have := HWR.out; simp at ho hm; omega), by rw [HLEN.out, HSTEP.out]; exact NN.1, NN.2.cell K3.out (by have := HWR.out; simp; omega)⟩
    ·obtain rfl : L = hh := by omega
     obtain rfl : T = 0 := by omega
     have h2 : 0 ≤ cp + k := by omega
     gi_wp2_with fail
     refine wpIn_region_held (open_round _) (S := (· = W2.drew)) (by kernel_rfl) (by kernel_rfl) rfl (fun J0 => ?_)
     refine tw 0 47 J0 ?_ (hy := by intro w' hSw; rw [show w' = W2.drew from hSw]; go_simp; try with_reducible rfl)
     try simp only [aS]
     refine tw 1 48 J0 ?_ (hy := by intro w' hSw; rw [show w' = W2.drew from hSw]; go_simp; try with_reducible rfl)
     try simp only [aS]
     refine tw 2 49 J0 ?_ (hy := by intro w' hSw; rw [show w' = W2.drew from hSw]; go_simp; try with_reducible rfl)
     try simp only [aS]
     refine tw 3 50 J0 ?_ (hy := by intro w' hSw; rw [show w' = W2.drew from hSw]; go_simp; try with_reducible rfl)
     try simp only [aS]
     refine tw 4 51 J0 ?_ (hy := by intro w' hSw; rw [show w' = W2.drew from hSw]; go_simp; try with_reducible rfl)
     try simp only [aS]
     refine tw 5 52 J0 ?_ (hy := by intro w' hSw; rw [show w' = W2.drew from hSw]; go_simp; try with_reducible rfl)
     try simp only [aS]
     refine tw 6 53 J0 ?_ (hy := by intro w' hSw; rw [show w' = W2.drew from hSw]; go_simp; try with_reducible rfl)
     try simp only [aS]
     refine tw 7 54 J0 ?_ (hy := by intro w' hSw; rw [show w' = W2.drew from hSw]; go_simp; try with_reducible rfl)
     try simp only [aS]
     refine tw 8 55 J0 ?_ (hy := by intro w' hSw; rw [show w' = W2.drew from hSw]; go_simp; try with_reducible rfl)
     try simp only [aS]
     refine tw 9 56 J0 ?_ (hy := by intro w' hSw; rw [show w' = W2.drew from hSw]; go_simp; try with_reducible rfl)
     try simp only [aS]
     refine tw 10 57 J0 ?_ (hy := by intro w' hSw; rw [show w' = W2.drew from hSw]; go_simp; try with_reducible rfl)
     try simp only [aS]
     refine tw 11 58 J0 ?_ (hy := by intro w' hSw; rw [show w' = W2.drew from hSw]; go_simp; try with_reducible rfl)
     try simp only [aS]
     refine tw 12 59 J0 ?_ (hy := by intro w' hSw; rw [show w' = W2.drew from hSw]; go_simp; try with_reducible rfl)
     try simp only [aS]
     refine tw 13 60 J0 ?_ (hy := by intro w' hSw; rw [show w' = W2.drew from hSw]; go_simp; try with_reducible rfl)
     try simp only [aS]
     refine tw 14 61 J0 ?_ (hy := by intro w' hSw; rw [show w' = W2.drew from hSw]; go_simp; try with_reducible rfl)
     try simp only [aS]
     refine tw 15 62 J0 ?_ (hy := by intro w' hSw; rw [show w' = W2.drew from hSw]; go_simp; try with_reducible rfl)
     try simp only [aS]
     refine tw 16 63 J0 ?_ (hy := by intro w' hSw; rw [show w' = W2.drew from hSw]; go_simp; try with_reducible rfl)
     try simp only [aS]
     refine tw 17 64 J0 ?_ (hy := by intro w' hSw; rw [show w' = W2.drew from hSw]; go_simp; try with_reducible rfl)
     try simp only [aS]
     refine tw 18 65 J0 ?_ (hy := by intro w' hSw; rw [show w' = W2.drew from hSw]; go_simp; try with_reducible rfl)
     try simp only [aS]
     refine tw 19 66 J0 ?_ (hy := by intro w' hSw; rw [show w' = W2.drew from hSw]; go_simp; try with_reducible rfl)
     try simp only [aS]
     refine tw 20 67 J0 ?_ (hy := by intro w' hSw; rw [show w' = W2.drew from hSw]; go_simp; try with_reducible rfl)
     try simp only [aS]
     refine tw 21 12 J0 ?_ (hy := by intro w' hSw; rw [show w' = W2.drew from hSw]; go_simp; try with_reducible rfl)
     try simp only [aS]
     refine heldN_done (by kernel_rfl) ?_ _
     rw [HW3.out]
     obtain ⟨x0, x1, x2, x3, x4, x5⟩ := run_cells I3.out.f PP3.out OO3.out (by have := HZW.out; have := HWR.out; omega) (by have := HZW.out; have := HWR.out; omega) hn60 hc16 HTHL.out (lo + L) (0) (0)
     simp only at x0 x1 x2 x3 x4 x5
     rw [HHE.out] at x3
     generalize fs.thr.getD xa 0 = z3 at x1
     have y0 := I3.out.f.lost
     rw [HLO.out] at y0
     have y1 := I3.out.f.fz 76
     have y2 := I3.out.f.fz xa
     have y3 := I3.out.f.fz (60 + xc)
     have N5 := Lib.hid (I3.out.next (s := s) (p := ⟨xa, xc, xn, x⟩) hn60 hc16 HTHL.out (v1 := lo + L) (v2 := 0) (v3 := 0) (by rw [HLO.out, HLL.out]) (by rw [HTT.out]; try omega) (by rw [HLL.out, HTT.out]; simp only [HHE.out]; try omega))
     rcases HIN.out with hin | ⟨kk, hin, -, -, hkk⟩
     ·have hin : x.into = _ := hin
      rw [hin] at x4
      clear x5
      gi_wp2_with fail
      have NN := N5.out.1 (by show x.into < 0; omega)
      exact ⟨Keeps.of_grown ((g23.mono (by simp)).trans NN.2) (fun o ho hm => by have := HZ.out; have := HWR.out; simp at ho hm; omega), by rw [HLEN.out, HSTEP.out]; exact NN.1, NN.2.cell K3.out (by have := HWR.out; simp; omega)⟩
     ·have hin : x.into = _ := hin
      rw [hin] at x4
      have x6 := x5 kk hkk
      have y4 := I3.out.f.fz (60 + kk)
      have hkk0 : (kk : Int) < 16 := by omega
      have hkk1 : (0 : Int) ≤ (kk : Int) := by omega
      generalize (if kk = xc then 0 else fs.t kk) = z6 at x6
      clear x5
      gi_wp2_with fail
      have NN := N5.out.2 kk hkk hin
      exact ⟨Keeps.of_grown ((g23.mono (by simp)).trans NN.2) (fun o ho hm => by have := HZ.out; have := HWR.out; simp at ho hm; omega), by rw [HLEN.out, HSTEP.out]; exact NN.1, NN.2.cell K3.out (by have := HWR.out; simp; omega)⟩
   case done =>
    rintro xs W hS ⟨hi, hk0⟩ hK
    obtain rfl : xs = allP ws := hS
    rw [allP_len] at hi
    have HI := Lib.hid hi
    have HKK := Lib.hid hK
    obtain ⟨F, hF⟩ : ∃ F, flowTo ws s (total ws) = F := ⟨_, rfl⟩
    have HF : Hid (flowF ws s = F) := Lib.hid hF
    rw [hF] at hi
    have HI2 := Lib.hid hi
    have rl := run_loadAt_mid (P := Try.prog) W (w.heap.size + 1 + 1 + 1) 0 123 (fsL F) _ hi.f.range Try.underlying123 rfl (by rw [fsL_len]; kernel_rfl)
    have rs := run_storeAt_mid (P := Try.prog) W (w.heap.size + 1 + 1) 0 123 (fsL F).toArray (by rw [show (fsL F).toArray.size = 77 by rw [List.size_toArray, fsL_len]]; exact hi.res.there) (by rw [show (fsL F).toArray.size = 77 by rw [List.size_toArray, fsL_len]]; kernel_rfl) (all_oneCell_toArray (fsL_one F))
    obtain ⟨W5, hW5⟩ : ∃ W5, W.setCells (w.heap.size + 1 + 1) 0 (fsL F).toArray.toList = W5 := ⟨_, rfl⟩
    have hr5 : W5.rangeAt (w.heap.size + 1 + 1) 0 (fsL F) := by rw [← hW5]; exact World.rangeAt_setCells_same _ _ _ _ (by rw [fsL_len]; exact hi.res.there)
    have g5 : GrownL [w.heap.size + 2] W W5 := by rw [← hW5]; exact GrownL.setCells _ _ _ _ _ (by simp)
    have HR5 := Lib.hid hr5
    have G5 := Lib.hid g5
    rw [hW5] at rs
    have hln := fsL_len F
    have rsc : (storeCells ⟨w.heap.size + 1 + 1, 0, none⟩ (fsL F)).run Try.prog W = .ok () W5 := by
     have := run_storeCells_cells (P := Try.prog) (w.heap.size + 1 + 1) 0 (fsL F) 0 W (fun j hj => by simpa using (hi.res.there j (by rw [fsL_len] at hj; exact hj)).1) (fun j hj => by simpa using (hi.res.there j (by rw [fsL_len] at hj; exact hj)).2) (fsL_one F)
     rw [← hW5]
     simpa using this
    have RSC := Lib.hid rsc
    have RL := Lib.hid rl
    have RS := Lib.hid rs
    clear hi hK hF hW5 hr5 g5 hk0 rl rs rsc
    gi_wp2_with fail
    refine wpIn_load_run 123 _ rfl (u := .pointer (some ⟨w.heap.size + 1 + 1 + 1, 0, none⟩)) rfl RL.out ?_
    gi_wp2_with fail
    rw [RSC.out]
    gi_wp2_with fail
    have hk5 : W5.heap[W0.heap.size]? = some (.deferred (some [])) := (G5.out.block _ (Array.getElem?_eq_some_iff.1 HKK.out).1 (by have := HZ.out; have := HWR.out; simp; omega)).trans HKK.out
    have gp : GrownL [W0.heap.size] W5 (W5.putObj W0.heap.size (.deferred none)) := GrownL.putObj (bs := [W0.heap.size]) W5 W0.heap.size (.deferred none) (by simp)
    have hr6 : (W5.putObj W0.heap.size (.deferred none)).rangeAt (w.heap.size + 1 + 1) 0 (fsL F) := fun j v hj => gp.cell (HR5.out j v hj) (by have := HZ.out; have := HWR.out; simp; omega)
    have rl6 := run_loadVar_mid (P := Try.prog) (W5.putObj W0.heap.size (.deferred none)) (w.heap.size + 1 + 1) 0 123 (fsL F) _ hr6 Try.underlying123 rfl (by rw [fsL_len]; kernel_rfl)
    refine ⟨by simp, .inl ⟨_, _, rfl, run_takeDeferred hk5, ?_⟩⟩
    refine ⟨.agg (fsL F).toArray, ?_, by rw [HF.out], (HI.out.bel.trans (G5.out.below (by simp) HI.out.bel.size)).trans (gp.below (by have := HZ.out; have := HWR.out; simp; omega) (by have := G5.out.size; have := HI.out.bel.size; omega))⟩
    simp [results, Try.results79, rl6, asAddr]
end Go.Proofs.Ytkoacclbempmdaa
