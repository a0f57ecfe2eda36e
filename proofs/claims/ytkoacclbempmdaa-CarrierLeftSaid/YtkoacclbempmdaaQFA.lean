/- Carriers that go away with a carrier, and the works without them: plain mathematics. -/
import Derived.Test.YtkoacclbempmdaaGL
import Derived.Test.YtkoacclbempmdaaGF
import Derived.Test.YtkoacclbempmdaaOO7
import Derived.Test.YtkoacclbempmdaaOOI
import Derived.Test.YtkoacclbempmdaaGH
namespace Go.Proofs.Ytkoacclbempmdaa

/-- Which carriers go away, by the first places. -/
def goneS (c0 : Nat) (s : List Pl) : Nat → Bool := s.foldl (fun g p c => g c || (g p.c && decide (p.o.into = (c : Int)))) (fun c => decide (c = c0))
theorem goneS_nil (c0 c : Nat) : goneS c0 [] c = decide (c = c0) := rfl
theorem goneS_snoc (c0 : Nat) (s : List Pl) (p : Pl) (c : Nat) : goneS c0 (s ++ [p]) c = (goneS c0 s c || (goneS c0 s p.c && decide (p.o.into = (c : Int)))) := by
 unfold goneS
 rw [List.foldl_append]
 rfl
def goneB (ws : Wk) (c0 c : Nat) : Bool := goneS c0 (allP ws) c
theorem goneB_total (ws : Wk) (c0 c : Nat) : goneB ws c0 c = goneS c0 ((allP ws).take (total ws)) c := by
 rw [List.take_of_length_le (by rw [allP_len]; exact Nat.le_refl _)]
 rfl
/-- What no later outlet feeds is decided. -/
theorem gone_late (ws : Wk) (c0 c : Nat) : ∀ k n, n + k = total ws → (∀ j p, n ≤ j → (allP ws)[j]? = some p → p.o.into ≠ (c : Int)) → goneS c0 ((allP ws).take n) c = goneB ws c0 c
 | 0, n, h, _ => by rw [goneB_total, show n = total ws by omega]
 | k + 1, n, h, hl => by
  obtain ⟨p, hp⟩ := at_total (ws := ws) (n := n) (by omega)
  have := gone_late ws c0 c k (n + 1) (by omega) (fun j p hj => hl j p (by omega))
  rw [take_snoc_get hp, goneS_snoc, decide_eq_false (hl n p (Nat.le_refl _) hp)] at this
  simpa using this
/-- Whether the carrier of an outlet goes away is known ahead of the outlet. -/
theorem gone_at {ws : Wk} (hw : WOk ws) (c0 : Nat) {n : Nat} {p : Pl} (hp : (allP ws)[n]? = some p) : goneS c0 ((allP ws).take n) p.c = goneB ws c0 p.c := by
 have hn := lt_total hp
 refine gone_late ws c0 p.c (total ws - n) n (by omega) fun j q hj hq e => ?_
 have h1 := (hw.into_lt hq e).1
 obtain ⟨-, os, -, -, h2⟩ := allP_inv hp
 have := pl_behind hq (c := p.c) (by omega)
 omega
theorem gone_iff {ws : Wk} (hw : WOk ws) (c0 c : Nat) : ∀ n, n ≤ total ws → (goneS c0 ((allP ws).take n) c = true ↔ c = c0 ∨ ∃ (j : Nat) (p : Pl), j < n ∧ (allP ws)[j]? = some p ∧ p.o.into = (c : Int) ∧ goneB ws c0 p.c = true)
 | 0, _ => by
  rw [List.take_zero, goneS_nil, decide_eq_true_iff]
  exact ⟨.inl, fun h => h.elim id fun ⟨j, _, hj, _⟩ => by omega⟩
 | n + 1, h => by
  obtain ⟨p, hp⟩ := at_total (ws := ws) (n := n) (by omega)
  rw [take_snoc_get hp, goneS_snoc, Bool.or_eq_true, gone_iff hw c0 c n (by omega), Bool.and_eq_true, decide_eq_true_iff, gone_at hw c0 hp]
  constructor
  ·rintro ((h | ⟨j, q, hj, h⟩) | ⟨h1, h2⟩)
   ·exact .inl h
   ·exact .inr ⟨j, q, by omega, h⟩
   ·exact .inr ⟨n, p, by omega, hp, h2, h1⟩
  ·rintro (h | ⟨j, q, hj, h1, h2, h3⟩)
   ·exact .inl (.inl h)
   ·rcases Nat.lt_or_ge j n with h' | h'
    ·exact .inl (.inr ⟨j, q, h', h1, h2, h3⟩)
    ·obtain rfl : j = n := by omega
     rw [hp] at h1
     cases h1
     exact .inr ⟨h3, h2⟩
theorem goneB_iff {ws : Wk} (hw : WOk ws) (c0 c : Nat) : goneB ws c0 c = true ↔ c = c0 ∨ ∃ (j : Nat) (p : Pl), (allP ws)[j]? = some p ∧ p.o.into = (c : Int) ∧ goneB ws c0 p.c = true := by
 rw [goneB_total, gone_iff hw c0 c _ (Nat.le_refl _)]
 exact ⟨fun h => h.elim .inl fun ⟨j, p, _, h⟩ => .inr ⟨j, p, h⟩, fun h => h.elim .inl fun ⟨j, p, h1, h⟩ => .inr ⟨j, p, lt_total h1, h1, h⟩⟩
/-- What an outlet of a carrier that goes away feeds goes away. -/
theorem gone_into {ws : Wk} (hw : WOk ws) {c0 n c : Nat} {p : Pl} (hp : (allP ws)[n]? = some p) (hc : p.o.into = (c : Int)) (hg : goneB ws c0 p.c = true) : goneB ws c0 c = true := (goneB_iff hw c0 c).2 (.inr ⟨n, p, hp, hc, hg⟩)
/-- By the outlet that feeds it. -/
theorem gone_feeder {ws : Wk} (hw : WOk ws) {c0 c : Nat} {r : Int} (hr : FstIs (fun o : Ou => o.into) (outs ws) c r) : goneB ws c0 c = (decide (c = c0) || (decide (0 ≤ r) && (match (allP ws)[r.toNat]? with | some p => goneB ws c0 p.c | none => false))) := by
 rw [Bool.eq_iff_iff, goneB_iff hw]
 rcases hr with ⟨i, o, ho, he, -, rfl⟩ | ⟨hn, rfl⟩
 ·obtain ⟨p, hp⟩ := at_total (ws := ws) (n := i) (by rw [← outs_len]; exact (List.getElem?_eq_some_iff.1 ho).1)
  have := (outs_get hp).1
  rw [this] at ho
  cases ho
  have he : p.o.into = (c : Int) := he
  rw [show ((i : Int)).toNat = i by omega, hp]
  simp only [Bool.or_eq_true, Bool.and_eq_true, decide_eq_true_iff]
  constructor
  ·rintro (h | ⟨j, q, hq, h1, h2⟩)
   ·exact .inl h
   ·obtain rfl : j = i := by
     rcases Nat.lt_trichotomy i j with h | h | h
     ·exact absurd (he.trans h1.symm) ((hw.one i j p q hp hq h).2 (by omega))
     ·exact h.symm
     ·exact absurd (h1.trans he.symm) ((hw.one j i q p hq hp h).2 (by omega))
    rw [hp] at hq
    cases hq
    exact .inr ⟨by omega, h2⟩
  ·rintro (h | ⟨-, h⟩)
   ·exact .inl h
   ·exact .inr ⟨i, p, hp, he, h⟩
 ·simp only [Bool.or_eq_true, Bool.and_eq_true, decide_eq_true_iff]
  constructor
  ·rintro (h | ⟨j, q, hq, h1, h2⟩)
   ·exact .inl h
   ·exact absurd h1 (hn j q.o (outs_get hq).1)
  ·rintro (h | ⟨h, -⟩)
   ·exact .inl h
   ·omega
/-- How many carriers are left ahead of one. -/
def numN (ws : Wk) (c0 : Nat) : Nat → Nat
 | 0 => 0
 | c + 1 => numN ws c0 c + (if goneB ws c0 c then 0 else 1)
theorem numN_le (ws : Wk) (c0 : Nat) : ∀ c, numN ws c0 c ≤ c
 | 0 => Nat.le_refl _
 | c + 1 => by
  have := numN_le ws c0 c
  unfold numN
  split <;> omega
theorem numN_mono (ws : Wk) (c0 : Nat) : ∀ k c, numN ws c0 c ≤ numN ws c0 (c + k)
 | 0, _ => Nat.le_refl _
 | k + 1, c => by
  have := numN_mono ws c0 k c
  rw [← Nat.add_assoc]
  show _ ≤ numN ws c0 (c + k) + _
  omega
theorem numN_lt {ws : Wk} {c0 c d : Nat} (h : c < d) (hg : goneB ws c0 c = false) : numN ws c0 c < numN ws c0 d := by
 have := numN_mono ws c0 (d - (c + 1)) (c + 1)
 rw [show c + 1 + (d - (c + 1)) = d by omega] at this
 have h2 : numN ws c0 (c + 1) = numN ws c0 c + 1 := by
  show numN ws c0 c + (if goneB ws c0 c then 0 else 1) = _
  rw [hg]
  rfl
 omega
/-- A carrier's new number; -1 if it goes away. -/
def numI (ws : Wk) (c0 c : Nat) : Int := if goneB ws c0 c then -1 else numN ws c0 c
/-- An outlet without where its passes lie. -/
structure Co where
 id : Int
 into : Int
 ps : List Int
 k0 : Int
 k1 : Int
 s0 : Int
 s1 : Int
def Ou.co (x : Ou) : Co := ⟨x.id, x.into, x.ps, x.k0, x.k1, x.s0, x.s1⟩
/-- An outlet with another carrier behind it. -/
def Ou.to (x : Ou) (n : Int) : Co := ⟨x.id, n, x.ps, x.k0, x.k1, x.s0, x.s1⟩
/-- Where an outlet leads in the works without a carrier. -/
def newTo (ws : Wk) (c0 : Nat) (x : Ou) : Int := if 0 ≤ x.into then numI ws c0 x.into.toNat else x.into
def newO (ws : Wk) (c0 : Nat) (x : Ou) : Co := x.to (newTo ws c0 x)
/-- The works without a carrier, as far as the first carriers go. -/
def wOut (ws : Wk) (c0 : Nat) (k : Nat) : List (List Co) := ((List.range k).filter fun c => !goneB ws c0 c).map fun c => (ws.getD c []).map (newO ws c0)
theorem wOut_zero (ws : Wk) (c0 : Nat) : wOut ws c0 0 = [] := rfl
theorem wOut_gone {ws : Wk} {c0 k : Nat} (h : goneB ws c0 k = true) : wOut ws c0 (k + 1) = wOut ws c0 k := by
 unfold wOut
 rw [List.range_succ, List.filter_append]
 simp [h]
theorem wOut_left {ws : Wk} {c0 k : Nat} {os : List Ou} (h : goneB ws c0 k = false) (hk : ws[k]? = some os) : wOut ws c0 (k + 1) = wOut ws c0 k ++ [os.map (newO ws c0)] := by
 unfold wOut
 rw [List.range_succ, List.filter_append, List.map_append]
 simp [h, List.getD_eq_getElem?_getD, hk]
theorem wOut_len (ws : Wk) (c0 : Nat) : ∀ k, (wOut ws c0 k).length = numN ws c0 k
 | 0 => rfl
 | k + 1 => by
  have := wOut_len ws c0 k
  unfold wOut at this ⊢
  rw [List.range_succ, List.filter_append]
  unfold numN
  cases h : goneB ws c0 k <;> simp_all
end Go.Proofs.Ytkoacclbempmdaa

/- Contract of numbersWithout. -/
namespace Go.Proofs.Ytkoacclbempmdaa
open Go.RowKit
attribute [local go_sem] Oper.semAt_some

/-- The array of what goes away, in the block g. -/
def Gon (g : Nat) (f : Nat → Bool) (W : World) : Prop := ∀ c, c < 16 → W.cell? ⟨g, c, none⟩ = some (.bool (f c)) ∧ W.frozen? ⟨g, c, none⟩ = false
theorem Gon.lt {g : Nat} {f : Nat → Bool} {W : World} (h : Gon g f W) : g < W.heap.size := World.block_lt_of_cell? _ _ (h 0 (by decide)).1
theorem Gon.grown {g : Nat} {f : Nat → Bool} {W W' : World} {bs : List Nat} (h : Gon g f W) (hg : GrownL bs W W') (hn : g ∉ bs) : Gon g f W' := fun c hc => by
 obtain ⟨h1, h2⟩ := h c hc
 exact ⟨hg.cell h1 hn, (World.frozen?_of_block (hg.block _ (World.block_lt_of_cell? _ _ h1) hn)).trans h2⟩
theorem Gon.congr {g : Nat} {f f' : Nat → Bool} {W : World} (h : Gon g f W) (e : ∀ c, f' c = f c) : Gon g f' W := fun c hc => by rw [e]; exact h c hc
theorem Gon.set {g : Nat} {f : Nat → Bool} {W : World} {c : Nat} (h : Gon g f W) (hc : c < 16) (b : Bool) : Gon g (fun d => if d = c then b else f d) (W.setCell ⟨g, c, none⟩ (.bool b)) := fun d hd => by
 obtain ⟨h1, h2⟩ := h d hd
 refine ⟨?_, (World.frozen?_setCell _ _ _ _).trans h2⟩
 by_cases e : d = c
 ·subst e
  refine (World.cell?_setCell_same' _ _ _ (by rw [h1]; rfl)).trans ?_
  simp
 ·rw [World.cell?_setCell_other _ ⟨g, c, none⟩ ⟨g, d, none⟩ _ (by simp <;> omega)]
  refine h1.trans ?_
  simp [e]
/-- An array of 16 numbers, in the block g. -/
def Num (g : Nat) (f : Nat → Int) (W : World) : Prop := ∀ c, c < 16 → W.cell? ⟨g, c, none⟩ = some (.int .i64 (f c)) ∧ W.frozen? ⟨g, c, none⟩ = false
theorem Num.lt {g : Nat} {f : Nat → Int} {W : World} (h : Num g f W) : g < W.heap.size := World.block_lt_of_cell? _ _ (h 0 (by decide)).1
theorem Num.grown {g : Nat} {f : Nat → Int} {W W' : World} {bs : List Nat} (h : Num g f W) (hg : GrownL bs W W') (hn : g ∉ bs) : Num g f W' := fun c hc => by
 obtain ⟨h1, h2⟩ := h c hc
 exact ⟨hg.cell h1 hn, (World.frozen?_of_block (hg.block _ (World.block_lt_of_cell? _ _ h1) hn)).trans h2⟩
theorem Num.congr {g : Nat} {f f' : Nat → Int} {W : World} (h : Num g f W) (e : ∀ c, f' c = f c) : Num g f' W := fun c hc => by rw [e]; exact h c hc
theorem Num.set {g : Nat} {f : Nat → Int} {W : World} {c : Nat} (h : Num g f W) (hc : c < 16) (x : Int) : Num g (fun d => if d = c then x else f d) (W.setCell ⟨g, c, none⟩ (.int .i64 x)) := fun d hd => by
 obtain ⟨h1, h2⟩ := h d hd
 refine ⟨?_, (World.frozen?_setCell _ _ _ _).trans h2⟩
 by_cases e : d = c
 ·subst e
  refine (World.cell?_setCell_same' _ _ _ (by rw [h1]; rfl)).trans ?_
  simp
 ·rw [World.cell?_setCell_other _ ⟨g, c, none⟩ ⟨g, d, none⟩ _ (by simp <;> omega)]
  refine h1.trans ?_
  simp [e]
theorem Num.congr' {g : Nat} {f f' : Nat → Int} {W : World} (h : Num g f W) (e : ∀ c, c < 16 → f' c = f c) : Num g f' W := fun c hc => by rw [e c hc]; exact h c hc
abbrev arr16 (f : Nat → Int) : Value := .agg #[.int .i64 (f 0), .int .i64 (f 1), .int .i64 (f 2), .int .i64 (f 3), .int .i64 (f 4), .int .i64 (f 5), .int .i64 (f 6), .int .i64 (f 7), .int .i64 (f 8), .int .i64 (f 9), .int .i64 (f 10), .int .i64 (f 11), .int .i64 (f 12), .int .i64 (f 13), .int .i64 (f 14), .int .i64 (f 15)]
theorem lt16 {d : Nat} (h : d < 16) : d = 0 ∨ d = 1 ∨ d = 2 ∨ d = 3 ∨ d = 4 ∨ d = 5 ∨ d = 6 ∨ d = 7 ∨ d = 8 ∨ d = 9 ∨ d = 10 ∨ d = 11 ∨ d = 12 ∨ d = 13 ∨ d = 14 ∨ d = 15 := by omega
/-- All numbers of an array are written. -/
theorem Num.sets {g : Nat} {f0 : Nat → Int} {W : World} (h : Num g f0 W) (f : Nat → Int) : Num g f ((((((((((((((((W.setCell ⟨g, 0, none⟩ (.int .i64 (f 0))).setCell ⟨g, 1, none⟩ (.int .i64 (f 1))).setCell ⟨g, 2, none⟩ (.int .i64 (f 2))).setCell ⟨g, 3, none⟩ (.int .i64 (f 3))).setCell ⟨g, 4, none⟩ (.int .i64 (f 4))).setCell ⟨g, 5, none⟩ (.int .i64 (f 5))).setCell ⟨g, 6, none⟩ (.int .i64 (f 6))).setCell ⟨g, 7, none⟩ (.int .i64 (f 7))).setCell ⟨g, 8, none⟩ (.int .i64 (f 8))).setCell ⟨g, 9, none⟩ (.int .i64 (f 9))).setCell ⟨g, 10, none⟩ (.int .i64 (f 10))).setCell ⟨g, 11, none⟩ (.int .i64 (f 11))).setCell ⟨g, 12, none⟩ (.int .i64 (f 12))).setCell ⟨g, 13, none⟩ (.int .i64 (f 13))).setCell ⟨g, 14, none⟩ (.int .i64 (f 14))).setCell ⟨g, 15, none⟩ (.int .i64 (f 15))) ∧ GrownL [g] W ((((((((((((((((W.setCell ⟨g, 0, none⟩ (.int .i64 (f 0))).setCell ⟨g, 1, none⟩ (.int .i64 (f 1))).setCell ⟨g, 2, none⟩ (.int .i64 (f 2))).setCell ⟨g, 3, none⟩ (.int .i64 (f 3))).setCell ⟨g, 4, none⟩ (.int .i64 (f 4))).setCell ⟨g, 5, none⟩ (.int .i64 (f 5))).setCell ⟨g, 6, none⟩ (.int .i64 (f 6))).setCell ⟨g, 7, none⟩ (.int .i64 (f 7))).setCell ⟨g, 8, none⟩ (.int .i64 (f 8))).setCell ⟨g, 9, none⟩ (.int .i64 (f 9))).setCell ⟨g, 10, none⟩ (.int .i64 (f 10))).setCell ⟨g, 11, none⟩ (.int .i64 (f 11))).setCell ⟨g, 12, none⟩ (.int .i64 (f 12))).setCell ⟨g, 13, none⟩ (.int .i64 (f 13))).setCell ⟨g, 14, none⟩ (.int .i64 (f 14))).setCell ⟨g, 15, none⟩ (.int .i64 (f 15))) := by
 constructor
 ·refine (((((((((((((((((h).set (c := 0) (by decide) (f 0)).set (c := 1) (by decide) (f 1)).set (c := 2) (by decide) (f 2)).set (c := 3) (by decide) (f 3)).set (c := 4) (by decide) (f 4)).set (c := 5) (by decide) (f 5)).set (c := 6) (by decide) (f 6)).set (c := 7) (by decide) (f 7)).set (c := 8) (by decide) (f 8)).set (c := 9) (by decide) (f 9)).set (c := 10) (by decide) (f 10)).set (c := 11) (by decide) (f 11)).set (c := 12) (by decide) (f 12)).set (c := 13) (by decide) (f 13)).set (c := 14) (by decide) (f 14)).set (c := 15) (by decide) (f 15)).congr' fun d hd => ?_
  rcases lt16 hd with rfl | rfl | rfl | rfl | rfl | rfl | rfl | rfl | rfl | rfl | rfl | rfl | rfl | rfl | rfl | rfl <;> rfl
 ·exact ((((((((((((((((GrownL.set _ _ _ (by simp)).trans (GrownL.set _ _ _ (by simp))).trans (GrownL.set _ _ _ (by simp))).trans (GrownL.set _ _ _ (by simp))).trans (GrownL.set _ _ _ (by simp))).trans (GrownL.set _ _ _ (by simp))).trans (GrownL.set _ _ _ (by simp))).trans (GrownL.set _ _ _ (by simp))).trans (GrownL.set _ _ _ (by simp))).trans (GrownL.set _ _ _ (by simp))).trans (GrownL.set _ _ _ (by simp))).trans (GrownL.set _ _ _ (by simp))).trans (GrownL.set _ _ _ (by simp))).trans (GrownL.set _ _ _ (by simp))).trans (GrownL.set _ _ _ (by simp))).trans (GrownL.set _ _ _ (by simp)))
/-- What the loop over all outlets keeps in numbersWithout. -/
structure NwI (w : World) (c0 : Nat) (v : Value) (_ : List Nat) (s : List Pl) (W : World) : Prop where
 g : Gon (w.heap.size + 2) (goneS c0 s) W
 z : Num (w.heap.size + 1) (fun _ => 0) W
 c : W.cell? ⟨w.heap.size, 0, none⟩ = some v
 kp : KP w (w.heap.size + 3) v W
theorem NwI.grown {w W W' : World} {c0 : Nat} {v : Value} {O O' bs : List Nat} {s : List Pl} (h : NwI w c0 v O s W) (hg : GrownL bs W W') (hn : ∀ b ∈ bs, w.heap.size + 4 ≤ b) : NwI w c0 v O' s W' := by
 have n : ∀ k, k ≤ w.heap.size + 3 → k ∉ bs := fun k hk hm => by have := hn k hm; omega
 exact ⟨h.g.grown hg (n _ (by omega)), h.z.grown hg (n _ (by omega)), hg.cell h.c (n _ (by show w.heap.size ≤ _; omega)), h.kp.1.trans (hg.below (fun b hb => by have := hn b hb; omega) h.kp.1.size), hg.cell h.kp.2 (n _ (Nat.le_refl _))⟩
/-- The numbers as far as the first carriers go. -/
def numT (ws : Wk) (c0 k d : Nat) : Int := if d < k then numI ws c0 d else 0
theorem numT_zero (ws : Wk) (c0 d : Nat) : numT ws c0 0 d = 0 := rfl
theorem numT_succ (ws : Wk) (c0 k d : Nat) : numT ws c0 (k + 1) d = if d = k then numI ws c0 k else numT ws c0 k d := by
 unfold numT
 by_cases e : d = k
 ·subst e
  rw [if_pos (by omega), if_pos rfl]
 ·rw [if_neg e]
  by_cases h : d < k
  ·rw [if_pos h, if_pos (by omega)]
  ·rw [if_neg h, if_neg (by omega)]

set_option maxHeartbeats 8000000 in
set_option maxRecDepth 1000000 in
theorem numbersWithout_any (A : Option Addr) (n c c0 : Nat) (ws : Wk) (w : World) (h : RK w.heap.size (.slice A n c) ws w) (hw : WOk ws) (hc : c0 < ws.length) :
  Calls Try.prog 100 #[.agg #[.slice A n c], .int .i64 c0] w fun e w' => e = .returned (arr16 (numT ws c0 ws.length)) ∧ Below w.heap.size w w' := by
 have hn : n = ws.length := by obtain ⟨_, _, e, _⟩ := h; simp at e; exact e.2.1
 subst hn
 have H := Lib.hid h
 have HW := Lib.hid hw
 have HC := Lib.hid hc
 have hc16 : c0 < 16 := by have := hw.len; omega
 have hcI : (c0 : Int) < 16 := by omega
 have hc0 : (0 : Int) ≤ (c0 : Int) := by omega
 clear h hw hc
 obtain ⟨Wa, hWa⟩ : ∃ Wa, (((w.alloc (.cells #[.slice A ws.length c] 24)).alloc (.cells #[.int .i64 0, .int .i64 0, .int .i64 0, .int .i64 0, .int .i64 0, .int .i64 0, .int .i64 0, .int .i64 0, .int .i64 0, .int .i64 0, .int .i64 0, .int .i64 0, .int .i64 0, .int .i64 0, .int .i64 0, .int .i64 0] 121)).alloc (.cells #[.bool false, .bool false, .bool false, .bool false, .bool false, .bool false, .bool false, .bool false, .bool false, .bool false, .bool false, .bool false, .bool false, .bool false, .bool false, .bool false] 162)) = Wa := ⟨_, rfl⟩
 have hza : Wa.heap.size = w.heap.size + 3 := by rw [← hWa]; simp
 have hba : Below w.heap.size w Wa := by rw [← hWa]; exact (((Below.refl _ _).alloc (Nat.le_refl _) _).alloc (by simp) _).alloc (by simp; omega) _
 have G0 : Gon (w.heap.size + 2) (fun _ => false) Wa := fun d hd => by
  rw [← hWa]
  rcases lt16 hd with rfl | rfl | rfl | rfl | rfl | rfl | rfl | rfl | rfl | rfl | rfl | rfl | rfl | rfl | rfl | rfl <;> exact ⟨by simp [go_sem], by simp [go_sem]⟩
 have Z0 : Num (w.heap.size + 1) (fun _ => 0) Wa := fun d hd => by
  rw [← hWa]
  rcases lt16 hd with rfl | rfl | rfl | rfl | rfl | rfl | rfl | rfl | rfl | rfl | rfl | rfl | rfl | rfl | rfl | rfl <;> exact ⟨by simp [go_sem], by simp [go_sem]⟩
 have V0 : Wa.cell? ⟨w.heap.size, 0, none⟩ = some (.slice A ws.length c) := by rw [← hWa]; simp [go_sem]
 have e1 := (G0 c0 hc16).1
 have e2 := (G0 c0 hc16).2
 have GS := G0.set hc16 true
 obtain ⟨Wb, hWb⟩ : ∃ Wb, Wa.setCell ⟨w.heap.size + 2, c0, none⟩ (.bool true) = Wb := ⟨_, rfl⟩
 have gb : GrownL [w.heap.size + 2] Wa Wb := by rw [← hWb]; exact GrownL.set _ _ _ (by simp)
 rw [hWb] at GS
 have V1 : Wb.cell? ⟨w.heap.size, 0, none⟩ = some (.slice A ws.length c) := gb.cell V0 (by simp)
 have hzb : Wb.heap.size = w.heap.size + 3 := by rw [← hWb]; simp [hza]
 have NB : Hid (NwI w c0 (.slice A ws.length c) [] [] (Wb.alloc (.cells #[.slice A ws.length c] 24))) := Lib.hid (by
  have ga : GrownL ([] : List Nat) Wb (Wb.alloc (.cells #[.slice A ws.length c] 24)) := GrownL.of_below ((Below.refl _ _).alloc (Nat.le_refl _) _)
  refine ⟨(GS.grown ga (by simp)).congr fun d => ?_, (Z0.grown gb (by simp)).grown ga (by simp), ga.cell V1 (by simp), hba.trans ((gb.below (by simp) (by omega)).trans (ga.below (by simp) (by omega))), ?_⟩
  ·rw [goneS_nil]
   by_cases e : d = c0 <;> simp [e]
  ·have := World.alloc_heap_new Wb (.cells #[.slice A ws.length c] 24)
   rw [hzb] at this
   simp [World.cell?, this])
 clear GS G0 Z0 gb hba
 rw [show w.heap.size + 2 = w.heap.size + 1 + 1 from rfl] at e1 e2 hWb
 refine (callsIn_wide (n := 3)).1 ?_
 refine callsIn_of_wp_marks Try.func100 rfl trivial ?_ rfl
 simp only [Try.ntmps100, List.size_toArray, List.length_cons, List.length_nil, Nat.reduceAdd, Nat.reduceSub, Array.replicate_succ, Array.replicate_zero, List.push_toArray, List.append_toArray, List.nil_append, List.cons_append]
 gi_wp2_with fail
 refine ⟨trivial, (callsIn_wide.2 (places_any A ws.length c _)).mono ?_⟩
 rintro e w1 ⟨rfl, rfl⟩
 obtain ⟨W0, hW0⟩ : ∃ W0, (Wb.alloc (.cells #[.slice A ws.length c] 24)) = W0 := ⟨_, rfl⟩
 have hz0 : W0.heap.size = w.heap.size + 4 := by rw [← hW0]; simp [hzb]
 rw [hW0] at NB
 clear e1 e2 hWa hWb V0 hza
 gi_wp2_with fail
 try rw [hW0]
 have HZ0 := Lib.hid hz0
 refine wpIn_rangeK (gf := 132) (lb := #[.pointer (some ⟨w.heap.size + 3, 0, none⟩)]) rfl enters_places1
  (places_seq w W0 (w.heap.size + 3) A ws.length c ws H.out (by have := HW.out.tot; omega) (by have := HW.out.len; omega)) (Below.refl _ _) (fun o ho => by cases ho) (fun _ => rfl)
  (NwI w c0 (.slice A ws.length c)) (fun _ _ _ _ => False) (fun _ _ _ h => h.kp) ?h0 ?hI (fun _ _ _ _ _ _ h _ => h) ?round ?done ?stop
 case h0 =>
  intro W' hb hsz
  exact NB.out.grown (bs := []) (GrownL.of_below hb) (by simp)
 case hI =>
  rintro O O' s W1 W2 hO hi hg hcl
  refine hi.grown hg (fun b hb => ?_)
  have := HZ0.out
  rcases List.mem_cons.1 hb with e | hb
  ·omega
  rcases List.mem_cons.1 hb with e | hb
  ·omega
  ·rcases hO _ hb with h | h
   ·cases h
   ·omega
 case round =>
  rintro O pre x W hO hi hsz hsp
  have HI := Lib.hid hi
  have hin := HW.out.into (somePl_mem hsp)
  have HXL : Hid (x.c < ws.length) := Lib.hid (by obtain ⟨-, os, h9, -⟩ := allP_inv (prefix_of hsp).1; exact (List.getElem?_eq_some_iff.1 h9).1)
  clear hi hsp
  obtain ⟨xa, xc, xn, x⟩ := x
  dsimp only [encP]
  gi_wp2_with fail
  refine ⟨Keeps.of_below (((Below.refl _ _).alloc (Nat.le_refl _) _).alloc (by simp) _), fun W2 hg2 hl2 => ?_⟩
  have hwz : w.heap.size + 6 ≤ W.heap.size := by have := HZ0.out; omega
  have g0 : GrownL (([] : List Nat)) W _ := GrownL.of_below (((Below.refl W.heap.size W).alloc (Nat.le_refl _) (.cells #[.int .i64 xa, .int .i64 xc, .int .i64 xn] 133)).alloc (by simp) (.cells #[.int .i64 x.id, .int .i64 x.into, .slice x.pa x.ps.length x.pc, .int .i64 x.k0, .int .i64 x.k1, .int .i64 x.s0, .int .i64 x.s1] 42))
  have HI2 : Hid (NwI w c0 (.slice A ws.length c) O pre W2) := Lib.hid ((HI.out.grown (O' := O) g0 (by simp)).grown hg2 (by simp <;> (have := HZ0.out; omega)))
  have b0 : W2.cell? ⟨W.heap.size, 1, none⟩ = some (.int .i64 xc) := hg2.cell (p := ⟨W.heap.size, 1, none⟩) (by simp [go_sem]) (by simp <;> omega)
  have b1 : W2.cell? ⟨W.heap.size + 1, 1, none⟩ = some (.int .i64 x.into) := hg2.cell (p := ⟨W.heap.size + 1, 1, none⟩) (by simp [go_sem]) (by simp <;> omega)
  clear HI hg2 g0
  have hxc : xc < 16 := by
   have hl := HW.out.len
   have : xc < ws.length := HXL.out
   omega
  obtain ⟨e1, e2⟩ := HI2.out.g xc hxc
  have hx0 : (xc : Int) < 16 := by omega
  have hx1 : (0 : Int) ≤ (xc : Int) := by omega
  obtain ⟨bb, hbb⟩ : ∃ bb, goneS c0 pre xc = bb := ⟨_, rfl⟩
  have HBB := Lib.hid hbb
  rw [hbb] at e1
  clear hbb
  cases bb
  ·gi_wp2_with fail
   exact ⟨Keeps.refl _ _, HI2.out.g.congr (fun d => by rw [goneS_snoc, show goneS c0 pre xc = _ from HBB.out, Bool.false_and, Bool.or_false]), HI2.out.z, HI2.out.c, HI2.out.kp⟩
  ·rcases hin with hin | ⟨k, hin, -, -, hk⟩
   ·have hin : x.into = _ := hin
    rw [hin] at b1
    gi_wp2_with fail
    exact ⟨Keeps.refl _ _, HI2.out.g.congr (fun d => by rw [goneS_snoc, decide_eq_false (show ¬ x.into = (d : Int) by omega), Bool.and_false, Bool.or_false]), HI2.out.z, HI2.out.c, HI2.out.kp⟩
   ·have hin : x.into = _ := hin
    rw [hin] at b1
    obtain ⟨f1, f2⟩ := HI2.out.g k hk
    have hk0 : (k : Int) < 16 := by omega
    have hk1 : (0 : Int) ≤ (k : Int) := by omega
    generalize goneS c0 pre k = bb at f1
    gi_wp2_with fail
    have hg3 : GrownL [w.heap.size + 2] W2 (W2.setCell ⟨w.heap.size + 2, k, none⟩ (.bool true)) := GrownL.set _ _ _ (by simp)
    refine ⟨Keeps.of_grown hg3 (fun o ho hm => ?_), (HI2.out.g.set hk true).congr (fun d => ?_), HI2.out.z.grown hg3 (by simp), hg3.cell HI2.out.c (by simp), HI2.out.kp.1.trans (hg3.below (by simp) HI2.out.kp.1.size), hg3.cell HI2.out.kp.2 (by simp)⟩
    ·rw [List.mem_singleton] at hm
     have := HZ0.out
     rcases List.mem_append.1 ho with h | h
     ·simp at h
      omega
     ·rcases hO _ h with h' | h'
      ·cases h'
      ·omega
    ·rw [goneS_snoc, show goneS c0 pre xc = _ from HBB.out, Bool.true_and]
     by_cases e : d = k
     ·subst e
      rw [if_pos rfl, decide_eq_true hin, Bool.or_true]
     ·rw [if_neg e, decide_eq_false (show ¬ x.into = (d : Int) by omega), Bool.or_false]
 case done =>
  rintro O xs W hO hS hi hD hK
  obtain rfl : xs = allP ws := hS
  obtain ⟨Wn, hWn⟩ : ∃ Wn, W.alloc (.cells #[.int .i64 0, .int .i64 0, .int .i64 0, .int .i64 0, .int .i64 0, .int .i64 0, .int .i64 0, .int .i64 0, .int .i64 0, .int .i64 0, .int .i64 0, .int .i64 0, .int .i64 0, .int .i64 0, .int .i64 0, .int .i64 0] 121) = Wn := ⟨_, rfl⟩
  have hnb : Below W.heap.size W Wn := by rw [← hWn]; exact (Below.refl _ _).alloc (Nat.le_refl _) _
  have N0 : Hid (Num W.heap.size (numT ws c0 0) Wn) := Lib.hid fun d hd => by
   rw [← hWn, numT_zero]
   rcases lt16 hd with rfl | rfl | rfl | rfl | rfl | rfl | rfl | rfl | rfl | rfl | rfl | rfl | rfl | rfl | rfl | rfl <;> exact ⟨by simp [go_sem], by simp [go_sem]⟩
  have HI := Lib.hid (hi.grown (O' := O) (bs := []) (GrownL.of_below hnb) (by simp))
  have hwz : w.heap.size + 4 < W.heap.size := by have := (Array.getElem?_eq_some_iff.1 hK).1; omega
  have HKK : Hid (Wn.heap[W0.heap.size]? = some (.deferred (some []))) := Lib.hid (((GrownL.of_below (bs := []) hnb).block _ (Array.getElem?_eq_some_iff.1 hK).1 (by simp)).trans hK)
  have t0 := HI.out.c
  have HWZ := Lib.hid hwz
  clear hi hD hK hz0 V1 hnb hwz
  gi_wp2_with fail
  clear hWn t0
  gi_loopw [9, 32] (fun o u wr => ∃ k : Nat, u = .int .i64 k ∧ o = .int .i64 (numN ws c0 k) ∧ k ≤ ws.length ∧ Num W.heap.size (numT ws c0 k) wr ∧ NwI w c0 (.slice A ws.length c) O (allP ws) wr ∧ wr.heap[W0.heap.size]? = some (.deferred (some []))) (fun _ u _ => ws.length - (intOf u).toNat)
  case atStart => exact ⟨0, rfl, rfl, by omega, N0.out, HI.out, HKK.out⟩
  case round =>
   obtain ⟨k, rfl, rfl, hk, hN, hJ, hK⟩ := hrel
   have HN := Lib.hid hN
   have HJ := Lib.hid hJ
   have HK := Lib.hid hK
   clear hN hJ hK
   by_cases hkl : k < ws.length
   ·have hk0 : (k : Int) < (ws.length : Int) := by omega
    have hk16 : k < 16 := by have := HW.out.len; omega
    have hk1 : (k : Int) < 16 := by omega
    have hk2 : (0 : Int) ≤ (k : Int) := by omega
    obtain ⟨e1, e2⟩ := HJ.out.g k hk16
    obtain ⟨n1, n2⟩ := HN.out k hk16
    have hbe : goneS c0 (allP ws) k = goneB ws c0 k := rfl
    rw [hbe] at e1
    clear hbe e2
    have hnk : numN ws c0 (k + 1) = numN ws c0 k + (if goneB ws c0 k then 0 else 1) := rfl
    have hnI : numI ws c0 k = if goneB ws c0 k then -1 else (numN ws c0 k : Int) := rfl
    have hnl := numN_le ws c0 k
    obtain ⟨q, hq⟩ : ∃ q, numN ws c0 k = q := ⟨_, rfl⟩
    obtain ⟨bb, hbb⟩ : ∃ bb, goneB ws c0 k = bb := ⟨_, rfl⟩
    rw [hq] at hnk hnI hnl ⊢
    rw [hbb] at e1 hnk hnI
    have hq16 : (q : Int) < 16 := by omega
    obtain ⟨y, hy⟩ : ∃ y, numT ws c0 k k = y := ⟨_, rfl⟩
    rw [hy] at n1
    have HNK := Lib.hid (And.intro hnk hnI)
    clear hq hbb hnk hnI hy
    have gN : ∀ (x : Int), GrownL [W.heap.size] wr (wr.setCell ⟨W.heap.size, k, none⟩ (.int .i64 x)) := fun x => GrownL.set _ _ _ (by simp)
    have HGN := Lib.hid gN
    clear gN
    cases bb
    ·gi_wp2_with fail
     go_roundw
     case rel => exact ⟨k + 1, by go_num, by rw [HNK.out.1]; rfl, by omega, (HN.out.set hk16 q).congr (fun d => by rw [numT_succ, HNK.out.2]; rfl), HJ.out.grown (HGN.out _) (by have := HWZ.out; simp; omega), ((HGN.out q).block W0.heap.size (Array.getElem?_eq_some_iff.1 HK.out).1 (by have := HWZ.out; have := HZ0.out; simp; omega)).trans HK.out⟩
     case measure => show ws.length - ((k : Int) + 1).toNat < ws.length - (k : Int).toNat; omega
    ·gi_wp2_with fail
     go_roundw
     case rel => exact ⟨k + 1, by go_num, by rw [HNK.out.1]; rfl, by omega, (HN.out.set hk16 (-1)).congr (fun d => by rw [numT_succ, HNK.out.2]; rfl), HJ.out.grown (HGN.out _) (by have := HWZ.out; simp; omega), ((HGN.out (-1)).block W0.heap.size (Array.getElem?_eq_some_iff.1 HK.out).1 (by have := HWZ.out; have := HZ0.out; simp; omega)).trans HK.out⟩
     case measure => show ws.length - ((k : Int) + 1).toNat < ws.length - (k : Int).toNat; omega
   ·have hk0 : (ws.length : Int) ≤ (k : Int) := by omega
    obtain rfl : k = ws.length := by omega
    obtain ⟨f, hf⟩ : ∃ f, numT ws c0 ws.length = f := ⟨_, rfl⟩
    rw [hf] at HN
    have HF := Lib.hid hf
    clear hf
    obtain ⟨n0, -⟩ := HN.out 0 (by decide)
    obtain ⟨z0, y0⟩ := HJ.out.z 0 (by decide)
    obtain ⟨n1, -⟩ := HN.out 1 (by decide)
    obtain ⟨z1, y1⟩ := HJ.out.z 1 (by decide)
    obtain ⟨n2, -⟩ := HN.out 2 (by decide)
    obtain ⟨z2, y2⟩ := HJ.out.z 2 (by decide)
    obtain ⟨n3, -⟩ := HN.out 3 (by decide)
    obtain ⟨z3, y3⟩ := HJ.out.z 3 (by decide)
    obtain ⟨n4, -⟩ := HN.out 4 (by decide)
    obtain ⟨z4, y4⟩ := HJ.out.z 4 (by decide)
    obtain ⟨n5, -⟩ := HN.out 5 (by decide)
    obtain ⟨z5, y5⟩ := HJ.out.z 5 (by decide)
    obtain ⟨n6, -⟩ := HN.out 6 (by decide)
    obtain ⟨z6, y6⟩ := HJ.out.z 6 (by decide)
    obtain ⟨n7, -⟩ := HN.out 7 (by decide)
    obtain ⟨z7, y7⟩ := HJ.out.z 7 (by decide)
    obtain ⟨n8, -⟩ := HN.out 8 (by decide)
    obtain ⟨z8, y8⟩ := HJ.out.z 8 (by decide)
    obtain ⟨n9, -⟩ := HN.out 9 (by decide)
    obtain ⟨z9, y9⟩ := HJ.out.z 9 (by decide)
    obtain ⟨n10, -⟩ := HN.out 10 (by decide)
    obtain ⟨z10, y10⟩ := HJ.out.z 10 (by decide)
    obtain ⟨n11, -⟩ := HN.out 11 (by decide)
    obtain ⟨z11, y11⟩ := HJ.out.z 11 (by decide)
    obtain ⟨n12, -⟩ := HN.out 12 (by decide)
    obtain ⟨z12, y12⟩ := HJ.out.z 12 (by decide)
    obtain ⟨n13, -⟩ := HN.out 13 (by decide)
    obtain ⟨z13, y13⟩ := HJ.out.z 13 (by decide)
    obtain ⟨n14, -⟩ := HN.out 14 (by decide)
    obtain ⟨z14, y14⟩ := HJ.out.z 14 (by decide)
    obtain ⟨n15, -⟩ := HN.out 15 (by decide)
    obtain ⟨z15, y15⟩ := HJ.out.z 15 (by decide)
    gi_wp2_with fail
    have NS := HJ.out.z.sets f
    have G := NS.2
    obtain ⟨Wz, hWz⟩ : ∃ Wz, ((((((((((((((((wr.setCell ⟨w.heap.size + 1, 0, none⟩ (.int .i64 (f 0))).setCell ⟨w.heap.size + 1, 1, none⟩ (.int .i64 (f 1))).setCell ⟨w.heap.size + 1, 2, none⟩ (.int .i64 (f 2))).setCell ⟨w.heap.size + 1, 3, none⟩ (.int .i64 (f 3))).setCell ⟨w.heap.size + 1, 4, none⟩ (.int .i64 (f 4))).setCell ⟨w.heap.size + 1, 5, none⟩ (.int .i64 (f 5))).setCell ⟨w.heap.size + 1, 6, none⟩ (.int .i64 (f 6))).setCell ⟨w.heap.size + 1, 7, none⟩ (.int .i64 (f 7))).setCell ⟨w.heap.size + 1, 8, none⟩ (.int .i64 (f 8))).setCell ⟨w.heap.size + 1, 9, none⟩ (.int .i64 (f 9))).setCell ⟨w.heap.size + 1, 10, none⟩ (.int .i64 (f 10))).setCell ⟨w.heap.size + 1, 11, none⟩ (.int .i64 (f 11))).setCell ⟨w.heap.size + 1, 12, none⟩ (.int .i64 (f 12))).setCell ⟨w.heap.size + 1, 13, none⟩ (.int .i64 (f 13))).setCell ⟨w.heap.size + 1, 14, none⟩ (.int .i64 (f 14))).setCell ⟨w.heap.size + 1, 15, none⟩ (.int .i64 (f 15))) = Wz := ⟨_, rfl⟩
    rw [hWz] at NS G ⊢
    have hk := (G.block W0.heap.size (Array.getElem?_eq_some_iff.1 HK.out).1 (by have := HZ0.out; simp; omega)).trans HK.out
    have gp : GrownL [W0.heap.size] Wz (Wz.putObj W0.heap.size (.deferred none)) := GrownL.putObj (bs := [W0.heap.size]) Wz W0.heap.size (.deferred none) (by simp)
    have NP := NS.1.grown gp (by have := HZ0.out; simp; omega)
    have bz := HJ.out.kp.1.trans ((G.below (by simp) HJ.out.kp.1.size).trans (gp.below (by have := HZ0.out; simp; omega) (Nat.le_trans HJ.out.kp.1.size G.size)))
    clear n0 z0 y0 n1 z1 y1 n2 z2 y2 n3 z3 y3 n4 z4 y4 n5 z5 y5 n6 z6 y6 n7 z7 y7 n8 z8 y8 n9 z9 y9 n10 z10 y10 n11 z11 y11 n12 z12 y12 n13 z13 y13 n14 z14 y14 n15 z15 y15 NS G hWz
    have p0 := (NP 0 (by decide)).1
    have p1 := (NP 1 (by decide)).1
    have p2 := (NP 2 (by decide)).1
    have p3 := (NP 3 (by decide)).1
    have p4 := (NP 4 (by decide)).1
    have p5 := (NP 5 (by decide)).1
    have p6 := (NP 6 (by decide)).1
    have p7 := (NP 7 (by decide)).1
    have p8 := (NP 8 (by decide)).1
    have p9 := (NP 9 (by decide)).1
    have p10 := (NP 10 (by decide)).1
    have p11 := (NP 11 (by decide)).1
    have p12 := (NP 12 (by decide)).1
    have p13 := (NP 13 (by decide)).1
    have p14 := (NP 14 (by decide)).1
    have p15 := (NP 15 (by decide)).1
    refine ⟨by simp, .inl ⟨_, _, rfl, run_takeDeferred hk, ?_⟩⟩
    exact ⟨arr16 f, by simp [results, Try.results100, go_sem, p0, p1, p2, p3, p4, p5, p6, p7, p8, p9, p10, p11, p12, p13, p14, p15], by rw [HF.out], bz⟩
 case stop =>
  rintro c O pre W hO _ h _
  exact h.elim
end Go.Proofs.Ytkoacclbempmdaa

/- Works that one makes: rows of rows of one's own. -/
namespace Go.Proofs.Ytkoacclbempmdaa
open Go.RowKit

theorem ri_rr {B : Nat} {v : Value} {l : List Int} {w : World} (h : RI B v l w) : RR encI B v l w := by
 obtain ⟨A, c, e, hf, hh⟩ := h
 refine ⟨A, c, e, hf, fun hp => ?_⟩
 obtain ⟨b, o, e1, e2, h3⟩ := hh hp
 refine ⟨b, o, e1, e2, fun j u hj => ?_⟩
 obtain ⟨k, i, x, hk, hi, rfl, hu⟩ := EI.inv hj
 obtain rfl : i = 0 := by omega
 cases hu
 rw [Nat.mul_one, Nat.add_zero]
 exact h3 k x hk
theorem rr_ri {B : Nat} {v : Value} {l : List Int} {w : World} (h : RR encI B v l w) : RI B v l w := by
 obtain ⟨A, c, e, hf, hh⟩ := h
 refine ⟨A, c, e, hf, fun hp => ?_⟩
 obtain ⟨b, o, e1, e2, h3⟩ := hh hp
 refine ⟨b, o, e1, e2, fun k n hk => ?_⟩
 have := h3 (k * 1 + 0) (.int .i64 n) (by rw [EI.at_ l k 0 n hk (by decide)]; rfl)
 rwa [Nat.mul_one, Nat.add_zero] at this
/-- What reads stays, where other blocks are written. -/
theorem RR.grown' {α : Type} {enc : α → List Value} {v : Value} {l : List α} {w w' : World} {bs : List Nat} (h : RR enc w.heap.size v l w) (hg : GrownL bs w w') (hn : 0 < l.length → ∀ g, v.ownBlock = some g → g ∉ bs) : RR enc w'.heap.size v l w' := by
 by_cases hp : 0 < l.length
 ·exact h.grown hg (hn hp)
 ·obtain ⟨A, c, e, hl, hc⟩ := h
  exact ⟨A, c, e, hl, fun h => absurd h hp⟩
theorem RO.grownL {v : Value} {l : List Ou} {w w' : World} {bs : List Nat} (h : RO w.heap.size v l w) (hg : GrownL bs w w') (hn : 0 < l.length → ∀ g, v.ownBlock = some g → g ∉ bs) (hn2 : ∀ o ∈ l, 0 < o.ps.length → ∀ g, o.pv.ownBlock = some g → g ∉ bs) : RO w'.heap.size v l w' := by
 obtain ⟨h1, h2⟩ := h.rr
 exact RO.of_rr (h1.grown' hg hn) fun x hx => rr_ri ((ri_rr (h2 x hx)).grown' hg (hn2 x hx))
/-- A carrier of works that one makes. -/
structure Kr where
 A : Option Addr
 c : Nat
 os : List Ou
abbrev Kr.sl (x : Kr) : Value := .slice x.A x.os.length x.c
def encK (x : Kr) : List Value := [x.sl]
theorem EK : Enc encK 1 := ⟨by decide, fun _ => rfl, fun x u hu => by simp [encK] at hu; subst hu; rfl⟩
/-- It reads, lies in blocks from base on, and apart from a row. -/
structure KrOk (base : Nat) (v : Value) (x : Kr) (W : World) : Prop where
 ro : RO W.heap.size x.sl x.os W
 low : 0 < x.os.length → ∀ g, x.sl.ownBlock = some g → base ≤ g
 lows : ∀ o ∈ x.os, 0 < o.ps.length → ∀ g, o.pv.ownBlock = some g → base ≤ g
 off : 0 < x.os.length → ∀ g, v.ownBlock = some g → x.sl.ownBlock ≠ some g
 offs : ∀ o ∈ x.os, 0 < o.ps.length → ∀ g, v.ownBlock = some g → o.pv.ownBlock ≠ some g
theorem KrOk.grown {base : Nat} {v : Value} {x : Kr} {W W' : World} {bs : List Nat} (h : KrOk base v x W) (hg : GrownL bs W W') (hn : 0 < x.os.length → ∀ g, x.sl.ownBlock = some g → g ∉ bs) (hn2 : ∀ o ∈ x.os, 0 < o.ps.length → ∀ g, o.pv.ownBlock = some g → g ∉ bs) : KrOk base v x W' :=
 ⟨h.ro.grownL hg hn hn2, h.low, h.lows, h.off, h.offs⟩
theorem KrOk.below {base : Nat} {v : Value} {x : Kr} {W W' : World} (h : KrOk base v x W) (hb : Below W.heap.size W W') : KrOk base v x W' := ⟨h.ro.up hb.size hb, h.low, h.lows, h.off, h.offs⟩
theorem KrOk.older {base : Nat} {v : Value} {x : Kr} {W W' : World} {bs : List Nat} (h : KrOk base v x W) (hg : GrownL bs W W') (hn : ∀ b ∈ bs, b < base) : KrOk base v x W' :=
 h.grown hg (fun hp g hg hm => by have := h.low hp g hg; have := hn g hm; omega) (fun o ho hp g hg hm => by have := h.lows o ho hp g hg; have := hn g hm; omega)
theorem ro_lt {B : Nat} {A : Option Addr} {n c : Nat} {l : List Ou} {W : World} (h : RO B (.slice A n c) l W) (hp : 0 < l.length) : ∀ g, Value.ownBlock (.slice A n c) = some g → g < B := fun g hg => by
 obtain ⟨A', c', e, -, hc⟩ := h
 obtain ⟨b, o, rfl, hlt, -⟩ := hc hp
 simp only [Value.slice.injEq] at e
 rw [e.1] at hg
 cases hg
 exact hlt
theorem ri_lt {B : Nat} {A : Option Addr} {n c : Nat} {l : List Int} {W : World} (h : RI B (.slice A n c) l W) (hp : 0 < l.length) : ∀ g, Value.ownBlock (.slice A n c) = some g → g < B := fun g hg => by
 obtain ⟨A', c', e, -, hc⟩ := h
 obtain ⟨b, o, rfl, hlt, -⟩ := hc hp
 simp only [Value.slice.injEq] at e
 rw [e.1] at hg
 cases hg
 exact hlt
/-- Works that one makes. -/
def Deep (base : Nat) (v : Value) (L : List Kr) (W : World) : Prop := OwnG encK 1 38 base v L W ∧ ∀ x ∈ L, KrOk base v x W
theorem Deep.nil (base : Nat) (W : World) : Deep base (.slice none 0 0) [] W := ⟨OwnG.nil _ _ _ _ _, fun x hx => by cases hx⟩
theorem Deep.below {base : Nat} {v : Value} {L : List Kr} {W W' : World} (h : Deep base v L W) (hb : Below W.heap.size W W') : Deep base v L W' := ⟨h.1.below hb, fun x hx => (h.2 x hx).below hb⟩
/-- Other blocks, all older, are written. -/
theorem Deep.older {base : Nat} {v : Value} {L : List Kr} {W W' : World} {bs : List Nat} (h : Deep base v L W) (hg : GrownL bs W W') (hn : ∀ b ∈ bs, b < base) : Deep base v L W' :=
 ⟨h.1.grown hg (fun g hv hm => by have := (h.1.lt g hv).1; have := hn g hm; omega), fun x hx => (h.2 x hx).older hg hn⟩
theorem Deep.lower {base base' : Nat} {v : Value} {L : List Kr} {W : World} (h : Deep base v L W) (hb : base' ≤ base) : Deep base' v L W :=
 ⟨h.1.low hb, fun x hx => ⟨(h.2 x hx).ro, fun hp g hg => Nat.le_trans hb ((h.2 x hx).low hp g hg), fun o ho hp g hg => Nat.le_trans hb ((h.2 x hx).lows o ho hp g hg), (h.2 x hx).off, (h.2 x hx).offs⟩⟩
/-- One more carrier. -/
theorem Deep.app {base : Nat} {v v' : Value} {L : List Kr} {x : Kr} {W W' : World} (h : Deep base v L W) (hx : KrOk base v x W) (ho : OwnG encK 1 38 base v' (L ++ [x]) W') (hg : GrownL v.ownBlock.toList W W') (hd : v'.ownBlock = v.ownBlock ∨ v'.ownBlock = some W.heap.size) : Deep base v' (L ++ [x]) W' := by
 refine ⟨ho, fun y hy => ?_⟩
 have hy : KrOk base v y W := by
  rcases List.mem_append.1 hy with hy | hy
  ·exact h.2 y hy
  ·obtain rfl : y = x := by simpa using hy
   exact hx
 refine ⟨(hy.grown hg (fun hp g hgy hm => hy.off hp g (by simpa using hm) hgy) (fun o ho hp g hgy hm => hy.offs o ho hp g (by simpa using hm) hgy)).ro, hy.low, hy.lows, fun hp g hgv => ?_, fun o ho hp g hgv => ?_⟩
 ·rcases hd with hd | hd
  ·exact hy.off hp g (hd ▸ hgv)
  ·intro e
   rw [hd] at hgv
   cases hgv
   have := ro_lt hy.ro hp _ e
   omega
 ·rcases hd with hd | hd
  ·exact hy.offs o ho hp g (hd ▸ hgv)
  ·intro e
   rw [hd] at hgv
   cases hgv
   have := ri_lt (hy.ro.rr.2 o ho) hp _ e
   omega
theorem Deep.rk {base : Nat} {v : Value} {L : List Kr} {W : World} (h : Deep base v L W) (hl : Fits L.length) : RK W.heap.size v (L.map (·.os)) W := by
 obtain ⟨A, c, e, -, hc⟩ := h.1.rr EK hl
 refine ⟨A, c, by rw [List.length_map]; exact e, by rw [List.length_map]; exact hl, fun hp => ?_⟩
 obtain ⟨b, o, e1, e2, h3⟩ := hc (by rwa [List.length_map] at hp)
 refine ⟨b, o, e1, e2, fun k os hk => ?_⟩
 rw [List.getElem?_map] at hk
 cases hx : L[k]? with
 | none => rw [hx] at hk; cases hk
 | some x =>
  rw [hx] at hk
  cases hk
  have := h3 (k * 1 + 0) x.sl (by rw [EK.at_ L k 0 x hx (by decide)]; rfl)
  rw [Nat.mul_one, Nat.add_zero] at this
  exact ⟨_, this, (h.2 x (List.mem_of_getElem? hx)).ro⟩
theorem flat_set {α : Type} {enc : α → List Value} {s : Nat} (E : Enc enc s) {x' : α} {i : Nat} {u : Value} (hi : i < s) : ∀ (l : List α) (j : Nat) (x : α), l[j]? = some x → enc x' = (enc x).set i u → (l.set j x').flatMap enc = (l.flatMap enc).set (j * s + i) u
 | [], _, _, h, _ => by simp at h
 | y :: l, 0, x, h, e => by
  simp at h
  subst h
  rw [List.set_cons_zero, List.flatMap_cons, List.flatMap_cons, e, List.set_append_left _ _ (by rw [E.len, Nat.zero_mul]; omega), Nat.zero_mul, Nat.zero_add]
 | y :: l, j + 1, x, h, e => by
  rw [List.set_cons_succ, List.flatMap_cons, List.flatMap_cons, List.set_append_right _ _ (by rw [E.len, Nat.add_mul]; omega), E.len, show (j + 1) * s + i - s = j * s + i by rw [Nat.add_mul]; omega, flat_set E hi l j x (by simpa using h) e]
/-- A cell of an element of a list of one's own is written. -/
theorem OwnG.setC {α : Type} {enc : α → List Value} {s : Nat} {e : TypeId} {base g n c : Nat} {l : List α} {W : World} (E : Enc enc s) (h : OwnG enc s e base (.slice (some ⟨g, 0, none⟩) n c) l W) (hn : n = l.length) {j : Nat} {x x' : α} {i : Nat} {u : Value} (hj : l[j]? = some x) (hi : i < s) (he : enc x' = (enc x).set i u) :
  OwnG enc s e base (.slice (some ⟨g, 0, none⟩) n c) (l.set j x') (W.setCell ⟨g, j * s + i, none⟩ u) := by
 subst hn
 unfold OwnG at h ⊢
 rw [List.length_set, flat_set E hi l j x hj he]
 exact (h.stored (j * s + i) u).1
end Go.Proofs.Ytkoacclbempmdaa

/- Contract of renumbered. -/
namespace Go.Proofs.Ytkoacclbempmdaa
open Go.RowKit
attribute [local go_sem] Oper.semAt_some

/-- Where an outlet leads, by an array of numbers. -/
def toF (f : Nat → Int) (x : Ou) : Int := if 0 ≤ x.into then f x.into.toNat else x.into
/-- What renumbered holds in its first blocks. -/
structure RnbS (w : World) (v : Value) (f : Nat → Int) (W : World) : Prop where
 c : W.cell? ⟨w.heap.size, 0, none⟩ = some v
 n : Num (w.heap.size + 1) f W
 r : W.cell? ⟨w.heap.size + 2, 0, none⟩ = some (.slice none 0 0)
 rf : W.frozen? ⟨w.heap.size + 2, 0, none⟩ = false
 bel : Below w.heap.size w W
theorem RnbS.siz {w W : World} {v : Value} {f : Nat → Int} (h : RnbS w v f W) : w.heap.size + 3 ≤ W.heap.size := World.block_lt_of_cell? _ _ h.r
theorem RnbS.grown {w W W' : World} {v : Value} {f : Nat → Int} {bs : List Nat} (h : RnbS w v f W) (hg : GrownL bs W W') (hn : ∀ b ∈ bs, w.heap.size + 3 ≤ b) : RnbS w v f W' := by
 have n : ∀ k, k ≤ w.heap.size + 2 → k ∉ bs := fun k hk hm => by have := hn k hm; omega
 exact ⟨hg.cell h.c (n _ (by show w.heap.size ≤ _; omega)), h.n.grown hg (n _ (by omega)), hg.cell h.r (n _ (Nat.le_refl _)), (World.frozen?_of_block (hg.block _ (World.block_lt_of_cell? _ _ h.r) (n _ (Nat.le_refl _)))).trans h.rf, h.bel.trans (hg.below (fun b hb => by have := hn b hb; omega) h.bel.size)⟩
theorem RnbS.below {w W W' : World} {v : Value} {f : Nat → Int} (h : RnbS w v f W) (hb : Below W.heap.size W W') : RnbS w v f W' := h.grown (GrownL.of_below (bs := []) hb) (by simp)
/-- The outlets so far: those behind are as they were. -/
structure RnbL (base q : Nat) (f : Nat → Int) (os : List Ou) (j : Nat) (u : Value) (R : List Ou) (W : World) : Prop where
 own : OwnG encO 7 42 base u (R ++ os.drop j) W
 len : R.length = j
 ps : ∀ o ∈ R, OwnG encI 1 3 q o.pv o.ps W
 co : R.map Ou.co = (os.take j).map fun o => o.to (toF f o)

set_option maxHeartbeats 8000000 in
set_option maxRecDepth 1000000 in
theorem renumbered_any (A : Option Addr) (c : Nat) (os : List Ou) (f : Nat → Int) (w : World) (h : RO w.heap.size (.slice A os.length c) os w) (hc : os.length ≤ c) (hl : os.length ≤ 100000) (hps : ∀ o ∈ os, o.ps.length ≤ o.pc ∧ o.ps.length ≤ 100000) (hin : ∀ o ∈ os, o.into < 16) :
  Calls Try.prog 101 #[.agg #[.slice A os.length c], arr16 f] w fun e w' => ∃ u R, e = .returned (.agg #[u]) ∧ OwnG encO 7 42 w.heap.size u R w' ∧ (∀ o ∈ R, OwnG encI 1 3 w.heap.size o.pv o.ps w') ∧ R.map Ou.co = os.map (fun o => o.to (toF f o)) ∧ Below w.heap.size w w' := by
 have H := Lib.hid h.rr
 have HP := Lib.hid (And.intro hps hin)
 have hl0 : (os.length : Int) ≤ 100000 := by omega
 have HLL := Lib.hid (And.intro hl hc)
 obtain ⟨W0, hW0⟩ : ∃ W0, (((w.alloc (.cells #[.slice A os.length c] 38)).alloc (.cells #[.int .i64 (f 0), .int .i64 (f 1), .int .i64 (f 2), .int .i64 (f 3), .int .i64 (f 4), .int .i64 (f 5), .int .i64 (f 6), .int .i64 (f 7), .int .i64 (f 8), .int .i64 (f 9), .int .i64 (f 10), .int .i64 (f 11), .int .i64 (f 12), .int .i64 (f 13), .int .i64 (f 14), .int .i64 (f 15)] 121)).alloc (.cells #[.slice none 0 0] 38)) = W0 := ⟨_, rfl⟩
 have S : Hid (RnbS w (.slice A os.length c) f W0) := Lib.hid (by
  refine ⟨by rw [← hW0]; simp [go_sem], fun d hd => ?_, by rw [← hW0]; simp [go_sem], by rw [← hW0]; simp [go_sem], by rw [← hW0]; exact (((Below.refl _ _).alloc (Nat.le_refl _) _).alloc (by simp) _).alloc (by simp; omega) _⟩
  rw [← hW0]
  rcases lt16 hd with rfl | rfl | rfl | rfl | rfl | rfl | rfl | rfl | rfl | rfl | rfl | rfl | rfl | rfl | rfl | rfl <;> exact ⟨by simp [go_sem], by simp [go_sem]⟩)
 have CC := Lib.hid (cutO_any A c os.length os W0 (H.out.1.up S.out.bel.size S.out.bel) (Nat.le_refl _) hl hc)
 have t0 := S.out.c
 clear h hps hin hl hc
 go_enter Try.func101, Try.ntmps101
 go_wp2_with fail
 refine CC.out.mono ?_
 rintro e w1 ⟨u, rfl, o1, b1⟩
 rw [List.take_length] at o1
 obtain ⟨Au, cu, rfl, hAu⟩ := o1.form
 have O1 := Lib.hid o1
 have HAU := Lib.hid hAu
 have B1 := Lib.hid b1
 have S1 := Lib.hid (S.out.below b1)
 clear t0 hW0 o1 b1 hAu CC
 obtain ⟨q, hq⟩ : ∃ q, w1.heap.size = q := ⟨_, rfl⟩
 have HQ := Lib.hid hq
 clear hq
 go_wp2_with fail
 go_loopw [16] (fun u wr => ∃ (j : Nat) (R : List Ou), u = .int .i64 j ∧ j ≤ os.length ∧ RnbS w (.slice A os.length c) f wr ∧ RnbL W0.heap.size q f os j (.slice Au os.length cu) R wr ∧ q ≤ wr.heap.size) (fun u _ => os.length - (intOf u).toNat)
 case atStart => exact ⟨0, [], rfl, by omega, S1.out, ⟨O1.out, rfl, (fun o ho => by cases ho), rfl⟩, by rw [HQ.out]; exact Nat.le_refl _⟩
 case round =>
  obtain ⟨j, R, rfl, hj, hS, hR, hq⟩ := hrel
  have HS := Lib.hid hS
  have HR := Lib.hid hR
  have HQR := Lib.hid hq
  clear hS hR hq
  by_cases hjl : j < os.length
  ·have hj0 : (j : Int) < (os.length : Int) := by omega
   have hj1 : (0 : Int) ≤ (j : Int) := by omega
   obtain ⟨g, hg⟩ := HAU.out (by omega)
   have HG := Lib.hid hg
   subst hg
   obtain ⟨o, ho⟩ : ∃ o, os[j]? = some o := ⟨_, List.getElem?_eq_getElem hjl⟩
   have hat : (R ++ os.drop j)[j]? = some o := by rw [List.getElem?_append_right (by rw [HR.out.len]; exact Nat.le_refl _), HR.out.len, List.getElem?_drop]; simpa using ho
   have hlen : (R ++ os.drop j).length = os.length := by rw [List.length_append, HR.out.len, List.length_drop]; omega
   obtain ⟨b, oo, c', e1, hb, hcells⟩ := (HR.out.own.rr EO (by rw [hlen]; have := HLL.out.1; show os.length ≤ 1000000000000000; omega)).at_ EO hat
   simp only [Value.slice.injEq, Option.some.injEq, Addr.mk.injEq, and_true] at e1
   obtain ⟨⟨rfl, rfl⟩, -, -⟩ := e1
   have c0 := hcells 0 _ rfl
   have c1 := hcells 1 _ rfl
   have c2 := hcells 2 _ rfl
   have c3 := hcells 3 _ rfl
   have c4 := hcells 4 _ rfl
   have c5 := hcells 5 _ rfl
   have c6 := hcells 6 _ rfl
   have HO := Lib.hid (And.intro ho hat)
   have HLEN := Lib.hid hlen
   have hom := List.mem_of_getElem? ho
   have HPO := Lib.hid (And.intro (HP.out.1 o hom) (HP.out.2 o hom))
   have HRI : Hid (RI w.heap.size o.pv o.ps w) := Lib.hid (H.out.2 o hom)
   clear hcells ho hat hlen hom hb
   simp only [Nat.zero_add, Nat.add_zero] at c0 c1 c2 c3 c4 c5 c6
   go_wp2_with fail
   obtain ⟨W2, hW2⟩ : ∃ W2, wr.alloc (.cells #[.int .i64 o.id, .int .i64 o.into, .slice o.pa o.ps.length o.pc, .int .i64 o.k0, .int .i64 o.k1, .int .i64 o.s0, .int .i64 o.s1] 42) = W2 := ⟨_, rfl⟩
   have b2 : Below wr.heap.size wr W2 := by rw [← hW2]; exact (Below.refl _ _).alloc (Nat.le_refl _) _
   have d1 : W2.cell? ⟨wr.heap.size, 1, none⟩ = some (.int .i64 o.into) := by rw [← hW2]; simp [go_sem]
   have hz2 : W2.heap.size = wr.heap.size + 1 := by rw [← hW2]; simp
   have hbb := HS.out.bel.trans (b2.mono HS.out.bel.size)
   rw [hW2]
   refine (cutI_any o.pa o.pc o.ps.length o.ps W2 (ri_rr (HRI.out.up hbb.size hbb)) (Nat.le_refl _) HPO.out.1.2 HPO.out.1.1).mono ?_
   rintro e w3 ⟨p, rfl, op, b3⟩
   rw [List.take_length] at op
   obtain ⟨Ap, cp, rfl, -⟩ := op.form
   have bb := b2.trans (b3.mono b2.size)
   have S3 := Lib.hid (HS.out.below bb)
   have own3 := HR.out.own.below bb
   have ow : w3.ownsRow W0.heap.size 42 7 (.slice (some ⟨g, 0, none⟩) os.length cu) os.length ((R ++ os.drop j).flatMap encO) := by have := own3; unfold OwnG at this; rwa [HLEN.out] at this
   have e2 := (bb.cell (p := ⟨g, j * 7 + 2, none⟩) (by have := (HR.out.own.lt g rfl).2; exact this)).trans c2
   have f1 := World.ownsRow.frozenAt ow (j * 7 + 1)
   have f2 := World.ownsRow.frozenAt ow (j * 7 + 2)
   have e1 := (bb.cell (p := ⟨g, j * 7 + 1, none⟩) (by have := (HR.out.own.lt g rfl).2; exact this)).trans c1
   have d3 := (b3.cell (p := ⟨wr.heap.size, 1, none⟩) (by show wr.heap.size < _; omega)).trans d1
   have hgq : g < q := by have := (O1.out.lt g rfl).2; rw [HQ.out] at this; exact this
   have PS : Hid (∀ x ∈ R ++ [(⟨o.id, o.into, Ap, cp, o.ps, o.k0, o.k1, o.s0, o.s1⟩ : Ou)], OwnG encI 1 3 q x.pv x.ps w3) := Lib.hid fun x hx => by
    rcases List.mem_append.1 hx with hx | hx
    ·exact (HR.out.ps x hx).below bb
    ·rw [List.mem_singleton] at hx
     subst hx
     exact op.low (by have := HQR.out; omega)
   have OW3 := Lib.hid own3
   have HGQ := Lib.hid (And.intro hgq (And.intro (Nat.le_trans HQR.out bb.size) hz2))
   have HL3 : Hid ((R ++ os.drop j)[j]? = some o) := Lib.hid HO.out.2
   clear c0 c1 c2 c3 c4 c5 c6 hW2 d1 b2 b3 bb own3 ow op hbb hgq hz2
   obtain ⟨Wx, hWx⟩ : ∃ Wx, w3.setCell ⟨g, j * 7 + 2, none⟩ (.slice Ap o.ps.length cp) = Wx := ⟨_, rfl⟩
   have gx : GrownL [g] w3 Wx := by rw [← hWx]; exact GrownL.set _ _ _ (by simp)
   have OX : Hid (OwnG encO 7 42 W0.heap.size (.slice (some ⟨g, 0, none⟩) os.length cu) ((R ++ os.drop j).set j ⟨o.id, o.into, Ap, cp, o.ps, o.k0, o.k1, o.s0, o.s1⟩) Wx) := Lib.hid (by rw [← hWx]; exact OwnG.setC EO OW3.out HLEN.out.symm (i := 2) HL3.out (by decide) rfl)
   have hg3 : w.heap.size + 3 ≤ g := by have := (O1.out.lt g rfl).1; have := S.out.siz; omega
   have SX := Lib.hid (S3.out.grown gx (by simp; omega))
   have PX : Hid (∀ x ∈ R ++ [(⟨o.id, o.into, Ap, cp, o.ps, o.k0, o.k1, o.s0, o.s1⟩ : Ou)], OwnG encI 1 3 q x.pv x.ps Wx) := Lib.hid fun x hx => (PS.out x hx).grown gx (fun b hb hm => by have := ((PS.out x hx).lt b hb).1; have := HGQ.out.1; simp at hm; omega)
   have y1 : Wx.cell? ⟨g, j * 7 + 1, none⟩ = some (.int .i64 o.into) := by rw [← hWx, World.cell?_setCell_other _ ⟨g, j * 7 + 2, none⟩ ⟨g, j * 7 + 1, none⟩ _ (by simp)]; exact e1
   have y2 : Wx.frozen? ⟨g, j * 7 + 1, none⟩ = false := by rw [← hWx]; exact (World.frozen?_setCell _ _ _ _).trans f1
   have y3 : Wx.cell? ⟨wr.heap.size, 1, none⟩ = some (.int .i64 o.into) := gx.cell d3 (by have := (O1.out.lt g rfl).2; have := HQR.out; have := HQ.out; simp; omega)
   have HQX := Lib.hid (Nat.le_trans HGQ.out.2.1 gx.size)
   have LX : Hid (∀ x : Ou, ((R ++ os.drop j).set j x) = (R ++ [x]) ++ os.drop (j + 1)) := Lib.hid fun x => by
    rw [List.set_append_right _ _ (by rw [HR.out.len]; exact Nat.le_refl _), HR.out.len, Nat.sub_self, List.drop_eq_getElem_cons hjl, List.set_cons_zero, List.append_assoc]
    rfl
   have CX : Hid (∀ x : Ou, x.co = o.to (toF f o) → (R ++ [x]).map Ou.co = (os.take (j + 1)).map fun o => o.to (toF f o)) := Lib.hid fun x hx => by
    rw [take_at HO.out.1, List.map_append, List.map_append, HR.out.co, List.map_cons, List.map_cons, hx]
    rfl
   have HLR : Hid (R.length = j) := Lib.hid HR.out.len
   clear gx e1 f1 d3 PS
   by_cases h0 : 0 ≤ o.into
   ·obtain ⟨k, hk⟩ : ∃ k : Nat, o.into = k := ⟨o.into.toNat, by omega⟩
    have hk16 : k < 16 := by have := HPO.out.2; omega
    have hk0 : (k : Int) < 16 := by omega
    have hk1 : (0 : Int) ≤ (k : Int) := by omega
    have n1 := (SX.out.n k hk16).1
    obtain ⟨y, hy⟩ : ∃ y, f k = y := ⟨_, rfl⟩
    have HY := Lib.hid hy
    have HK := Lib.hid hk
    rw [hy] at n1
    rw [hk] at y3 y1
    clear hy hk h0
    have y3' := y3
    go_wp2_with fail
    obtain ⟨Wy, hWy⟩ : ∃ Wy, Wx.setCell ⟨g, j * 7 + 1, none⟩ (.int .i64 y) = Wy := ⟨_, rfl⟩
    rw [hWy]
    have gy : GrownL [g] Wx Wy := by rw [← hWy]; exact GrownL.set _ _ _ (by simp)
    have OY := OwnG.setC EO OX.out (by rw [List.length_set]; exact HLEN.out.symm) (j := j) (i := 1) (x' := ⟨o.id, y, Ap, cp, o.ps, o.k0, o.k1, o.s0, o.s1⟩) (u := .int .i64 y) (List.getElem?_set_self (by rw [HLEN.out]; exact hjl)) (by decide) rfl
    rw [hWy, List.set_set, LX.out] at OY
    refine ⟨⟨j + 1, R ++ [⟨o.id, y, Ap, cp, o.ps, o.k0, o.k1, o.s0, o.s1⟩], rfl, by omega, SX.out.grown gy (by simp; omega), ⟨OY, by rw [List.length_append, HLR.out]; rfl, fun x hx => ?_, CX.out _ (by unfold Ou.co Ou.to toF; rw [HK.out, if_pos (by omega), show ((k : Int)).toNat = k by omega, HY.out])⟩, Nat.le_trans HQX.out gy.size⟩, by show os.length - ((j : Int) + 1).toNat < os.length - (j : Int).toNat; omega⟩
    have key : OwnG encI 1 3 q x.pv x.ps Wx := by
     rcases List.mem_append.1 hx with hx | hx
     ·exact PX.out x (List.mem_append.2 (.inl hx))
     ·rw [List.mem_singleton] at hx
      subst hx
      exact PX.out ⟨o.id, o.into, Ap, cp, o.ps, o.k0, o.k1, o.s0, o.s1⟩ (List.mem_append.2 (.inr (List.mem_singleton.2 rfl)))
    exact key.grown gy (fun b hb hm => by have := (key.lt b hb).1; have := HGQ.out.1; simp at hm; omega)
   ·have h0' : o.into < 0 := by omega
    go_wp2_with fail
    have OY := OX.out
    rw [LX.out] at OY
    exact ⟨⟨j + 1, R ++ [⟨o.id, o.into, Ap, cp, o.ps, o.k0, o.k1, o.s0, o.s1⟩], rfl, by omega, SX.out, ⟨OY, by rw [List.length_append, HLR.out]; rfl, PX.out, CX.out _ (by unfold toF; rw [if_neg (by omega)]; rfl)⟩, HQX.out⟩, by show os.length - ((j : Int) + 1).toNat < os.length - (j : Int).toNat; omega⟩
  ·have hj0 : (os.length : Int) ≤ (j : Int) := by omega
   obtain rfl : j = os.length := by omega
   have r0 := HS.out.r
   have r1 := HS.out.rf
   go_wp2_with fail
   have gf : GrownL [w.heap.size + 2] wr (wr.setCell ⟨w.heap.size + 1 + 1, 0, none⟩ (.slice Au os.length cu)) := GrownL.set _ _ _ (by simp)
   have p0 : (wr.setCell ⟨w.heap.size + 1 + 1, 0, none⟩ (.slice Au os.length cu)).cell? ⟨w.heap.size + 1 + 1, 0, none⟩ = some (.slice Au os.length cu) := World.cell?_setCell_same' _ _ _ (by rw [r0]; rfl)
   obtain ⟨Wf, hWf⟩ : ∃ Wf, wr.setCell ⟨w.heap.size + 1 + 1, 0, none⟩ (.slice Au os.length cu) = Wf := ⟨_, rfl⟩
   rw [hWf] at gf p0 ⊢
   have hz := S.out.siz
   have OF : OwnG encO 7 42 W0.heap.size (.slice Au os.length cu) R Wf := by
    have := HR.out.own
    rw [List.drop_length, List.append_nil] at this
    exact this.grown gf (fun g hg hm => by have := (HR.out.own.lt g hg).1; simp at hm; omega)
   refine bodyPost_ret (v := .agg #[.slice Au os.length cu]) (by simp [results, Try.results101, go_sem, p0]) rfl ?_
   refine ⟨_, R, rfl, OF.low (by omega), fun o ho => ?_, by have := HR.out.co; rwa [List.take_length] at this, HS.out.bel.trans (gf.below (by simp) HS.out.bel.size)⟩
   have hq0 : W0.heap.size ≤ q := by have := B1.out.size; have := HQ.out; omega
   exact ((HR.out.ps o ho).grown gf (fun g hg hm => by have := ((HR.out.ps o ho).lt g hg).1; simp at hm; omega)).low (by omega)
end Go.Proofs.Ytkoacclbempmdaa

/- What flows in works without a carrier: plain mathematics. -/
namespace Go.Proofs.Ytkoacclbempmdaa

/-- Works that are those without a carrier, wherever their lists lie. -/
def IsLess (ws : Wk) (c0 : Nat) (R : Wk) : Prop := R.map (fun os => os.map Ou.co) = wOut ws c0 ws.length
/-- Whether an outlet stays. -/
def keepB (ws : Wk) (c0 n : Nat) : Bool := match (allP ws)[n]? with
 | some p => !goneB ws c0 p.c
 | none => false
theorem keepB_at {ws : Wk} {c0 n : Nat} {p : Pl} (hp : (allP ws)[n]? = some p) : keepB ws c0 n = !goneB ws c0 p.c := by unfold keepB; rw [hp]
theorem keepB_inv {ws : Wk} {c0 n : Nat} (h : keepB ws c0 n = true) : ∃ p, (allP ws)[n]? = some p ∧ goneB ws c0 p.c = false := by
 unfold keepB at h
 split at h
 ·exact ⟨_, by assumption, by simpa using h⟩
 ·cases h
/-- The places of what stays among the first so many. -/
def keptI (ws : Wk) (c0 n : Nat) : List Nat := (List.range n).filter (keepB ws c0)
theorem keptI_yes {ws : Wk} {c0 n : Nat} (h : keepB ws c0 n = true) : keptI ws c0 (n + 1) = keptI ws c0 n ++ [n] := by
 unfold keptI
 rw [List.range_succ, List.filter_append]
 simp [h]
theorem keptI_no {ws : Wk} {c0 n : Nat} (h : keepB ws c0 n = false) : keptI ws c0 (n + 1) = keptI ws c0 n := by
 unfold keptI
 rw [List.range_succ, List.filter_append]
 simp [h]
theorem keptI_mono (ws : Wk) (c0 : Nat) : ∀ k n, (keptI ws c0 n).length ≤ (keptI ws c0 (n + k)).length
 | 0, _ => Nat.le_refl _
 | k + 1, n => by
  have := keptI_mono ws c0 k n
  rw [← Nat.add_assoc]
  cases h : keepB ws c0 (n + k)
  ·rw [keptI_no h]
   exact this
  ·rw [keptI_yes h, List.length_append]
   simp
   omega
theorem keptI_lt {ws : Wk} {c0 n m : Nat} (h : n < m) (hk : keepB ws c0 n = true) : (keptI ws c0 n).length < (keptI ws c0 m).length := by
 have := keptI_mono ws c0 (m - (n + 1)) (n + 1)
 rw [show n + 1 + (m - (n + 1)) = m by omega, keptI_yes hk] at this
 simp at this
 omega
theorem keptI_get {ws : Wk} {c0 n : Nat} (hk : keepB ws c0 n = true) : ∀ k, (keptI ws c0 (n + 1 + k))[(keptI ws c0 n).length]? = some n
 | 0 => by
  rw [Nat.add_zero, keptI_yes hk, List.getElem?_append_right (Nat.le_refl _), Nat.sub_self]
  rfl
 | k + 1 => by
  have ih := keptI_get hk k
  rw [← Nat.add_assoc]
  cases h : keepB ws c0 (n + 1 + k)
  ·rw [keptI_no h]
   exact ih
  ·rw [keptI_yes h, List.getElem?_append_left (List.getElem?_eq_some_iff.1 ih).1]
   exact ih
theorem keptI_at {ws : Wk} {c0 n m : Nat} (hk : keepB ws c0 n = true) (h : n < m) : (keptI ws c0 m)[(keptI ws c0 n).length]? = some n := by
 have := keptI_get hk (m - (n + 1))
 rwa [show n + 1 + (m - (n + 1)) = m by omega] at this
theorem keptI_inv {ws : Wk} {c0 m : Nat} : ∀ k, m < (keptI ws c0 k).length → ∃ n, n < k ∧ keepB ws c0 n = true ∧ (keptI ws c0 n).length = m
 | 0, h => by simp [keptI] at h
 | k + 1, h => by
  cases hk : keepB ws c0 k
  ·rw [keptI_no hk] at h
   obtain ⟨n, h1, h2⟩ := keptI_inv k h
   exact ⟨n, by omega, h2⟩
  ·rw [keptI_yes hk, List.length_append] at h
   simp at h
   by_cases h' : m < (keptI ws c0 k).length
   ·obtain ⟨n, h1, h2⟩ := keptI_inv k h'
    exact ⟨n, by omega, h2⟩
   ·exact ⟨k, by omega, hk, by omega⟩
theorem keptI_le (ws : Wk) (c0 n : Nat) : (keptI ws c0 n).length ≤ n := by
 have := List.length_filter_le (keepB ws c0) (List.range n)
 rwa [List.length_range] at this
theorem wOut_left' {ws : Wk} {c0 k : Nat} (h : goneB ws c0 k = false) : wOut ws c0 (k + 1) = wOut ws c0 k ++ [(ws.getD k []).map (newO ws c0)] := by
 unfold wOut
 rw [List.range_succ, List.filter_append, List.map_append]
 simp [h]
theorem wOut_get {ws : Wk} {c0 c : Nat} {os : List Ou} (hg : goneB ws c0 c = false) (ho : ws[c]? = some os) : ∀ k, c < k → (wOut ws c0 k)[numN ws c0 c]? = some (os.map (newO ws c0))
 | 0, h => by omega
 | k + 1, h => by
  by_cases hc : c = k
  ·subst hc
   rw [wOut_left hg ho, List.getElem?_append_right (by rw [wOut_len]; exact Nat.le_refl _), wOut_len, Nat.sub_self]
   rfl
  ·have ih := wOut_get hg ho k (by omega)
   cases hk : goneB ws c0 k
   ·rw [wOut_left' hk, List.getElem?_append_left (List.getElem?_eq_some_iff.1 ih).1]
    exact ih
   ·rw [wOut_gone hk]
    exact ih
section
variable {ws R : Wk} {c0 : Nat} (hR : IsLess ws c0 R)
include hR
theorem less_len : R.length = numN ws c0 ws.length := by
 have := congrArg List.length hR
 rwa [List.length_map, wOut_len] at this
theorem less_get {c : Nat} {os : List Ou} (ho : ws[c]? = some os) (hg : goneB ws c0 c = false) : ∃ os', R[numN ws c0 c]? = some os' ∧ os'.map Ou.co = os.map (newO ws c0) := by
 have h := wOut_get hg ho ws.length (List.getElem?_eq_some_iff.1 ho).1
 rw [← hR, List.getElem?_map] at h
 cases hr : R[numN ws c0 c]? with
 | none => rw [hr] at h; cases h
 | some os' =>
  rw [hr] at h
  exact ⟨os', rfl, by simpa using h⟩
omit hR in
theorem kept_row (c0 : Nat) {c : Nat} {os : List Ou} (ho : ws[c]? = some os) : ∀ m, m ≤ os.length → (keptI ws c0 (pre ws c + m)).length = (keptI ws c0 (pre ws c)).length + (if goneB ws c0 c then 0 else m)
 | 0, _ => by split <;> rfl
 | m + 1, h => by
  have ih := kept_row c0 ho m (by omega)
  have hp := allP_get ho (List.getElem?_eq_getElem (l := os) (i := m) (by omega))
  have hk := keepB_at (c0 := c0) hp
  rw [← Nat.add_assoc]
  cases hg : goneB ws c0 c
  ·rw [hg] at hk ih
   rw [keptI_yes (by rw [hk]; rfl), List.length_append, ih]
   simp
   omega
  ·rw [hg] at hk ih
   rw [keptI_no (by rw [hk]; rfl), ih]
   rfl
theorem less_pre : ∀ c, c ≤ ws.length → pre R (numN ws c0 c) = (keptI ws c0 (pre ws c)).length
 | 0, _ => by simp [numN, pre_zero, keptI]
 | c + 1, h => by
  have ih := less_pre c (by omega)
  obtain ⟨os, ho⟩ : ∃ os, ws[c]? = some os := ⟨_, List.getElem?_eq_getElem (by omega)⟩
  rw [pre_succ ho, kept_row c0 ho os.length (Nat.le_refl _), ← ih]
  cases hg : goneB ws c0 c
  ·obtain ⟨os', h1, h2⟩ := less_get hR ho hg
   have hl := congrArg List.length h2
   rw [List.length_map, List.length_map] at hl
   have : numN ws c0 (c + 1) = numN ws c0 c + 1 := by show _ + (if goneB ws c0 c then 0 else 1) = _; rw [hg]; rfl
   rw [this, pre_succ h1, hl]
   rfl
  ·have : numN ws c0 (c + 1) = numN ws c0 c := by show _ + (if goneB ws c0 c then 0 else 1) = _; rw [hg]; rfl
   rw [this]
   rfl
theorem less_total : total R = (keptI ws c0 (total ws)).length := by
 show pre R R.length = _
 rw [less_len hR, less_pre hR _ (Nat.le_refl _)]
 rfl
/-- Where an outlet that stays is. -/
theorem less_place {n : Nat} {p : Pl} (hp : (allP ws)[n]? = some p) (hg : goneB ws c0 p.c = false) : ∃ o', (allP R)[(keptI ws c0 n).length]? = some ⟨(keptI ws c0 n).length, numN ws c0 p.c, p.n, o'⟩ ∧ o'.co = newO ws c0 p.o := by
 obtain ⟨-, os, h1, h2, h3⟩ := allP_inv hp
 have hc := (List.getElem?_eq_some_iff.1 h1).1
 have hn := (List.getElem?_eq_some_iff.1 h2).1
 obtain ⟨os', k1, k2⟩ := less_get hR h1 hg
 have k3 : (os'.map Ou.co)[p.n]? = some (newO ws c0 p.o) := by rw [k2, List.getElem?_map, h2]; rfl
 rw [List.getElem?_map] at k3
 cases ho : os'[p.n]? with
 | none => rw [ho] at k3; cases k3
 | some o' =>
  rw [ho] at k3
  have e := allP_get k1 ho
  have : pre R (numN ws c0 p.c) + p.n = (keptI ws c0 n).length := by
   rw [h3, kept_row c0 h1 p.n (by omega), hg, less_pre hR p.c (by omega)]
   rfl
  rw [this] at e
  exact ⟨o', e, by simpa using k3⟩
/-- Which outlet it was. -/
theorem less_inv {m : Nat} {p' : Pl} (hp' : (allP R)[m]? = some p') : ∃ (n : Nat) (p : Pl) (o' : Ou), (allP ws)[n]? = some p ∧ goneB ws c0 p.c = false ∧ (keptI ws c0 n).length = m ∧ p' = ⟨m, numN ws c0 p.c, p.n, o'⟩ ∧ o'.co = newO ws c0 p.o := by
 have hm := lt_total hp'
 rw [less_total hR] at hm
 obtain ⟨n, h1, h2, h3⟩ := keptI_inv _ hm
 obtain ⟨p, hp, hg⟩ := keepB_inv h2
 obtain ⟨o', h4, h5⟩ := less_place hR hp hg
 rw [h3, hp'] at h4
 exact ⟨n, p, o', hp, hg, h3, by simpa using h4, h5⟩
omit hR in
theorem numN_inj {c d : Nat} (hc : goneB ws c0 c = false) (hd : goneB ws c0 d = false) (h : numN ws c0 c = numN ws c0 d) : c = d := by
 rcases Nat.lt_trichotomy c d with h' | h' | h'
 ·have := numN_lt h' hc
  omega
 ·exact h'
 ·have := numN_lt h' hd
  omega
omit hR in
theorem newTo_is {n c : Nat} (hw : WOk ws) {p : Pl} (hp : (allP ws)[n]? = some p) (hc : goneB ws c0 c = false) : newTo ws c0 p.o = (numN ws c0 c : Int) ↔ p.o.into = (c : Int) := by
 unfold newTo
 rcases hw.into (List.mem_of_getElem? hp) with h | ⟨k, h, -⟩
 ·rw [h, if_neg (by omega)]
  constructor <;> intro h' <;> omega
 ·rw [h, if_pos (by omega), show ((k : Int)).toNat = k by omega]
  unfold numI
  constructor
  ·intro h'
   split at h'
   ·omega
   ·rename_i hk
    have := numN_inj (by simpa using hk) hc (by omega : numN ws c0 k = numN ws c0 c)
    omega
  ·intro h'
   obtain rfl : k = c := by omega
   rw [hc]
   rfl
omit hR in
theorem ouB_co {x y : Ou} {n : Int} (h : x.co = y.to n) : ouB x = ouB y ∧ x.into = n ∧ x.id = y.id ∧ x.ps = y.ps ∧ x.k0 = y.k0 ∧ x.k1 = y.k1 ∧ x.s0 = y.s0 ∧ x.s1 = y.s1 := by
 unfold Ou.co Ou.to at h
 rw [Co.mk.injEq] at h
 obtain ⟨h1, h2, h3, h4, h5, h6, h7⟩ := h
 refine ⟨?_, h2, h1, h3, h4, h5, h6, h7⟩
 unfold ouB
 rw [h1, h3, h4, h5, h6, h7]
theorem less_ok (hw : WOk ws) : WOk R := by
 refine ⟨?_, ?_, fun p' hp' => ?_, fun i j p' q' hp' hq' hij => ?_⟩
 ·have := numN_le ws c0 ws.length
  have := hw.len
  rw [less_len hR]
  omega
 ·have := keptI_le ws c0 (total ws)
  have := hw.tot
  rw [less_total hR]
  omega
 ·obtain ⟨m, hm⟩ := List.mem_iff_getElem?.1 hp'
  obtain ⟨n, p, o', hp, hg, h3, rfl, h5⟩ := less_inv hR hm
  obtain ⟨e1, e2, -⟩ := ouB_co h5
  have ok := hw.ok p (List.mem_of_getElem? hp)
  unfold okB at ok ⊢
  rw [Bool.and_eq_true] at ok ⊢
  refine ⟨e1.trans ok.1, ?_⟩
  rw [intoB_iff]
  show o'.into = -1 ∨ ((numN ws c0 p.c : Nat) : Int) < o'.into ∧ o'.into < R.length
  rw [e2, less_len hR]
  unfold newTo
  rcases hw.into (List.mem_of_getElem? hp) with h | ⟨k, h, h6, h7, -⟩
  ·rw [h, if_neg (by omega)]
   exact .inl rfl
  ·rw [h, if_pos (by omega), show ((k : Int)).toNat = k by omega]
   unfold numI
   cases hk : goneB ws c0 k
   ·right
    have := numN_lt h6 hg
    have := numN_lt h7 hk
    constructor
    ·show ((numN ws c0 p.c : Nat) : Int) < (numN ws c0 k : Nat)
     omega
    ·show ((numN ws c0 k : Nat) : Int) < (numN ws c0 ws.length : Nat)
     omega
   ·exact .inl rfl
 ·obtain ⟨n, p, o', hp, hg, h3, rfl, h5⟩ := less_inv hR hp'
  obtain ⟨n2, p2, o2, hp2, hg2, h32, rfl, h52⟩ := less_inv hR hq'
  obtain ⟨-, e2, e3, -⟩ := ouB_co h5
  obtain ⟨-, f2, f3, -⟩ := ouB_co h52
  have hnn : n < n2 := by
   rcases Nat.lt_or_ge n n2 with h | h
   ·exact h
   ·have := keptI_mono ws c0 (n - n2) n2
    rw [show n2 + (n - n2) = n by omega] at this
    omega
  obtain ⟨g1, g2⟩ := hw.one n n2 p p2 hp hp2 hnn
  refine ⟨?_, fun h e => ?_⟩
  ·show o'.id ≠ o2.id
   rw [e3, f3]
   exact g1
  ·have h : 0 ≤ o2.into := h
   have e : o'.into = o2.into := e
   rw [e2] at e
   rw [f2] at h e
   rcases hw.into (List.mem_of_getElem? hp2) with hh | ⟨k, hh, -⟩
   ·unfold newTo at h
    rw [hh, if_neg (by omega)] at h
    omega
   ·have hk : goneB ws c0 k = false := by
     cases hk : goneB ws c0 k
     ·rfl
     ·unfold newTo numI at h
      rw [hh, if_pos (by omega), show ((k : Int)).toNat = k by omega, hk] at h
      simp at h
    rw [(newTo_is hw hp2 hk).2 hh] at e
    exact g2 (by omega) (((newTo_is hw hp hk).1 e).trans hh.symm)
theorem less_fed (hw : WOk ws) {c : Nat} (hg : goneB ws c0 c = false) : fedB (allP R) (numN ws c0 c) = fedB (allP ws) c := by
 rw [Bool.eq_iff_iff]
 unfold fedB
 rw [List.any_eq_true, List.any_eq_true]
 constructor
 ·rintro ⟨p', hp', h⟩
  obtain ⟨m, hm⟩ := List.mem_iff_getElem?.1 hp'
  obtain ⟨n, p, o', hp, hgp, h3, rfl, h5⟩ := less_inv hR hm
  obtain ⟨-, e2, -⟩ := ouB_co h5
  have h := of_decide_eq_true h
  have h : o'.into = _ := h
  rw [e2] at h
  exact ⟨p, List.mem_of_getElem? hp, decide_eq_true ((newTo_is hw hp hg).1 h)⟩
 ·rintro ⟨p, hp', h⟩
  obtain ⟨n, hp⟩ := List.mem_iff_getElem?.1 hp'
  have h := of_decide_eq_true h
  have hgp : goneB ws c0 p.c = false := by
   cases hx : goneB ws c0 p.c
   ·rfl
   ·rw [gone_into hw hp h hx] at hg
    cases hg
  obtain ⟨o', h4, h5⟩ := less_place hR hp hgp
  obtain ⟨-, e2, -⟩ := ouB_co h5
  refine ⟨_, List.mem_of_getElem? h4, decide_eq_true ?_⟩
  show o'.into = _
  rw [e2]
  exact (newTo_is hw hp hg).2 h
theorem less_heads_to (hw : WOk ws) : ∀ k, k ≤ ws.length → ((List.range (numN ws c0 k)).filter fun c => !fedB (allP R) c) = (((List.range k).filter fun c => !fedB (allP ws) c).filter fun c => decide (c ≠ c0)).map (numN ws c0)
 | 0, _ => rfl
 | k + 1, h => by
  have ih := less_heads_to hw k (by omega)
  cases hg : goneB ws c0 k
  ·have : numN ws c0 (k + 1) = numN ws c0 k + 1 := by show _ + (if goneB ws c0 k then 0 else 1) = _; rw [hg]; rfl
   have hne : k ≠ c0 := fun e => by
    have := (goneB_iff hw c0 k).2 (.inl e)
    rw [hg] at this
    cases this
   have hf := less_fed hR hw hg
   rw [this, List.range_succ, List.filter_append, ih, List.range_succ, List.filter_append, List.filter_append, List.map_append]
   congr 1
   cases hb : fedB (allP ws) k <;> simp [hf, hb, hne]
  ·have : numN ws c0 (k + 1) = numN ws c0 k := by show _ + (if goneB ws c0 k then 0 else 1) = _; rw [hg]; rfl
   rw [this, ih, List.range_succ, List.filter_append, List.filter_append, List.map_append]
   have : (([k].filter fun c => !fedB (allP ws) c).filter fun c => decide (c ≠ c0)) = [] := by
    rcases (goneB_iff hw c0 k).1 hg with e | ⟨j, p, h1, h2, -⟩
    ·subst e
     cases hb : fedB (allP ws) k <;> simp [hb]
    ·have hb : fedB (allP ws) k = true := by
      unfold fedB
      rw [List.any_eq_true]
      exact ⟨p, List.mem_of_getElem? h1, decide_eq_true h2⟩
     simp [hb]
   rw [this]
   simp
theorem less_heads (hw : WOk ws) : headsN R = ((headsN ws).filter fun c => decide (c ≠ c0)).map (numN ws c0) := by
 unfold headsN
 rw [less_len hR]
 exact less_heads_to hR hw _ (Nat.le_refl _)
end
/-- What a list of heads and numbers says of a carrier. -/
def pk (hs : List Nat) (rv : List Int) (c : Nat) : Int := match hs.idxOf? c with
 | some k => rv.getD k 0
 | none => 0
theorem pk_cons (h : Nat) (hs : List Nat) (x : Int) (rv : List Int) (c : Nat) : pk (h :: hs) (x :: rv) c = if h = c then x else pk hs rv c := by
 unfold pk
 rw [List.idxOf?_cons]
 by_cases e : h = c
 ·subst e
  simp
 ·rw [if_neg e]
  have : (h == c) = false := by simpa using e
  rw [this]
  cases hs.idxOf? c <;> simp
theorem startT_pk (ws : Wk) (s : Wa) (c : Nat) : startT ws s c = pk (headsN ws) s.river c := rfl
theorem pk_filter (F : Nat → Nat) (c0 c : Nat) (hc : c ≠ c0) : ∀ (Z : List (Nat × Int)), (∀ z ∈ Z, z.1 ≠ c0 → F z.1 = F c → z.1 = c) → pk ((Z.filter fun z => decide (z.1 ≠ c0)).map fun z => F z.1) ((Z.filter fun z => decide (z.1 ≠ c0)).map (·.2)) (F c) = pk (Z.map (·.1)) (Z.map (·.2)) c
 | [], _ => rfl
 | (h, x) :: Z, hin => by
  have ih := pk_filter F c0 c hc Z fun z hz => hin z (List.mem_cons_of_mem _ hz)
  rw [List.map_cons, List.map_cons, pk_cons]
  by_cases e : h = c0
  ·rw [List.filter_cons_of_neg (by simp [e]), ih, if_neg (by omega)]
  ·rw [List.filter_cons_of_pos (by simp [e]), List.map_cons, List.map_cons, pk_cons, ih]
   by_cases e2 : h = c
   ·subst e2
    rw [if_pos rfl, if_pos rfl]
   ·rw [if_neg e2, if_neg fun e3 => e2 (hin (h, x) (List.mem_cons_self ..) e e3)]
/-- The river of the works without a carrier. -/
def lessRiver (ws : Wk) (c0 : Nat) (rv : List Int) (n : Nat) : List Int := ((((headsN ws).zip rv).take n).filter fun z => decide (z.1 ≠ c0)).map (·.2)
/-- The water of the works without a carrier. -/
def lessWa (ws : Wk) (c0 : Nat) (s : Wa) : Wa :=
 ⟨lessRiver ws c0 s.river (headsN ws).length, (keptI ws c0 (total ws)).map fun j => s.boards.getD j 0, (keptI ws c0 (total ws)).map fun j => s.leaks.getD j 0, (keptI ws c0 (total ws)).map fun j => s.losses.getD j 0⟩
theorem kept_map {ws : Wk} {c0 n : Nat} (f : Nat → Int) (hk : keepB ws c0 n = true) (hn : n < total ws) : ((keptI ws c0 (total ws)).map f).getD (keptI ws c0 n).length 0 = f n := by
 rw [List.getD_eq_getElem?_getD, List.getElem?_map, keptI_at hk hn]
 rfl
section
variable {ws R : Wk} {c0 : Nat} {s : Wa} (hR : IsLess ws c0 R) (hw : WOk ws) (hs : WaOk ws s)
include hR hw hs
omit hR hw in
theorem less_zip : (((headsN ws).zip s.river).map (·.1) = headsN ws ∧ ((headsN ws).zip s.river).map (·.2) = s.river) ∧ ((headsN ws).zip s.river).length = (headsN ws).length := by
 refine ⟨⟨?_, ?_⟩, ?_⟩
 ·exact List.map_fst_zip (by rw [hs.r]; exact Nat.le_refl _)
 ·exact List.map_snd_zip (by rw [hs.r]; exact Nat.le_refl _)
 ·rw [List.length_zip, hs.r, Nat.min_self]
theorem less_start {c : Nat} (hg : goneB ws c0 c = false) : startT R (lessWa ws c0 s) (numN ws c0 c) = startT ws s c := by
 obtain ⟨⟨z1, z2⟩, z3⟩ := less_zip hs
 have hne : c ≠ c0 := fun e => by
  have := (goneB_iff hw c0 c).2 (.inl e)
  rw [hg] at this
  cases this
 rw [startT_pk, startT_pk, less_heads hR hw]
 show pk _ (lessRiver ws c0 s.river (headsN ws).length) _ = _
 unfold lessRiver
 rw [List.take_of_length_le (by rw [z3]; exact Nat.le_refl _)]
 have hin : ∀ z ∈ (headsN ws).zip s.river, z.1 ≠ c0 → numN ws c0 z.1 = numN ws c0 c → z.1 = c := fun z hz hn e => by
  refine numN_inj ?_ hg e
  cases hx : goneB ws c0 z.1
  ·rfl
  ·rcases (goneB_iff hw c0 _).1 hx with h | ⟨j, p, h1, h2, -⟩
   ·exact absurd h hn
   ·have : z.1 ∈ headsN ws := by rw [← z1]; exact List.mem_map_of_mem hz
    unfold headsN at this
    rw [List.mem_filter] at this
    have hb : fedB (allP ws) z.1 = true := by
     unfold fedB
     rw [List.any_eq_true]
     exact ⟨p, List.mem_of_getElem? h1, decide_eq_true h2⟩
    rw [hb] at this
    simp at this
 have := pk_filter (numN ws c0) c0 c hne ((headsN ws).zip s.river) hin
 rw [z1, z2] at this
 rw [← this]
 congr 1
 conv => lhs; rw [← z1]
 rw [List.filter_map, List.map_map]
 rfl
theorem less_flow_to : ∀ n, n ≤ total ws → (∀ c, goneB ws c0 c = false → (flowTo R (lessWa ws c0 s) (keptI ws c0 n).length).t (numN ws c0 c) = (flowTo ws s n).t c) ∧
  (∀ (j : Nat) (p : Pl), j < n → (allP ws)[j]? = some p → goneB ws c0 p.c = false → (flowTo R (lessWa ws c0 s) (keptI ws c0 n).length).thr[(keptI ws c0 j).length]? = (flowTo ws s n).thr[j]?)
 | 0, _ => ⟨fun c hg => by
   show (flowTo R (lessWa ws c0 s) 0).t _ = (flowTo ws s 0).t c
   rw [flowTo_zero, flowTo_zero]
   exact less_start hR hw hs hg, fun j p h => by omega⟩
 | n + 1, h => by
  obtain ⟨ih1, ih2⟩ := less_flow_to n (by omega)
  obtain ⟨p, hp⟩ := at_total (ws := ws) (n := n) (by omega)
  have hk := keepB_at (c0 := c0) hp
  have hl := thr_len ws s n (by omega)
  have hat := (allP_inv hp).1
  cases hg : goneB ws c0 p.c
  ·rw [hg] at hk
   have hk : keepB ws c0 n = true := hk
   obtain ⟨o', hp', ho'⟩ := less_place hR hp hg
   obtain ⟨-, e2, -, e4, -⟩ := ouB_co ho'
   have hlt : (keptI ws c0 n).length < total R := lt_total hp'
   have hl' := thr_len R (lessWa ws c0 s) (keptI ws c0 n).length (by omega)
   have b1 := kept_map (fun j => s.boards.getD j 0) hk (by omega)
   have b2 := kept_map (fun j => s.leaks.getD j 0) hk (by omega)
   have b3 := kept_map (fun j => s.losses.getD j 0) hk (by omega)
   rw [keptI_yes hk, List.length_append, show [n].length = 1 from rfl, flowTo_succ _ hp', flowTo_succ _ hp]
   obtain ⟨f', hf'⟩ : ∃ f', flowTo R (lessWa ws c0 s) (keptI ws c0 n).length = f' := ⟨_, rfl⟩
   obtain ⟨f, hf⟩ : ∃ f, flowTo ws s n = f := ⟨_, rfl⟩
   rw [hf'] at ih1 ih2 hl' ⊢
   rw [hf] at ih1 ih2 hl ⊢
   have L : lostS (lessWa ws c0 s) f' ⟨(keptI ws c0 n).length, numN ws c0 p.c, p.n, o'⟩ = lostS s f p := by
    unfold lostS
    show min (f'.t (numN ws c0 p.c)) (((keptI ws c0 (total ws)).map fun j => s.losses.getD j 0).getD (keptI ws c0 n).length 0) = _
    rw [b3, ih1 _ hg, hat]
   have C : (lessWa ws c0 s).cap ⟨(keptI ws c0 n).length, numN ws c0 p.c, p.n, o'⟩ = s.cap p := by
    unfold Wa.cap
    show o'.ps.getD (((keptI ws c0 (total ws)).map fun j => s.boards.getD j 0).getD (keptI ws c0 n).length 0).toNat 0 + ((keptI ws c0 (total ws)).map fun j => s.leaks.getD j 0).getD (keptI ws c0 n).length 0 = _
    rw [b1, b2, e4, hat]
   have T : thrS (lessWa ws c0 s) f' ⟨(keptI ws c0 n).length, numN ws c0 p.c, p.n, o'⟩ = thrS s f p := by
    unfold thrS
    rw [L, C]
    show min (f'.t (numN ws c0 p.c) - _) _ = _
    rw [ih1 _ hg]
   refine ⟨fun c hc => ?_, fun j q hj hq hgq => ?_⟩
   ·show (if ((numN ws c0 c : Nat) : Int) = o'.into then thrS (lessWa ws c0 s) f' _ else if numN ws c0 c = numN ws c0 p.c then f'.t (numN ws c0 p.c) - lostS (lessWa ws c0 s) f' _ - thrS (lessWa ws c0 s) f' _ else f'.t (numN ws c0 c)) = (if (c : Int) = p.o.into then thrS s f p else if c = p.c then f.t p.c - lostS s f p - thrS s f p else f.t c)
    rw [T, L, ih1 _ hg, ih1 _ hc, e2]
    have i1 := newTo_is (c0 := c0) hw hp hc
    by_cases x : (c : Int) = p.o.into
    ·rw [if_pos x, if_pos (i1.2 x.symm).symm]
    ·rw [if_neg x, if_neg fun h => x (i1.1 h.symm).symm]
     by_cases y : c = p.c
     ·rw [if_pos y, if_pos (by rw [y])]
     ·rw [if_neg y, if_neg fun h => y (numN_inj hc hg h)]
   ·show (f'.thr ++ [thrS (lessWa ws c0 s) f' _])[_]? = (f.thr ++ [thrS s f p])[j]?
    rw [T]
    rcases Nat.lt_or_ge j n with hjn | hjn
    ·have hkq : keepB ws c0 j = true := by rw [keepB_at hq, hgq]; rfl
     have := keptI_lt hjn hkq
     rw [List.getElem?_append_left (by omega), List.getElem?_append_left (by omega)]
     exact ih2 j q hjn hq hgq
    ·obtain rfl : j = n := by omega
     rw [List.getElem?_append_right (by omega), List.getElem?_append_right (by omega), hl, hl', Nat.sub_self, Nat.sub_self]
  ·rw [hg] at hk
   rw [keptI_no (by rw [hk]; rfl), flowTo_succ _ hp]
   refine ⟨fun c hc => ?_, fun j q hj hq hgq => ?_⟩
   ·rw [ih1 c hc]
    show _ = (if (c : Int) = p.o.into then _ else if c = p.c then _ else (flowTo ws s n).t c)
    rw [if_neg (fun e => by rw [gone_into hw hp e.symm hg] at hc; cases hc), if_neg (fun e => by rw [e, hg] at hc; cases hc)]
   ·have hjn : j < n := by
     rcases Nat.lt_or_ge j n with h' | h'
     ·exact h'
     ·obtain rfl : j = n := by omega
      rw [hp] at hq
      cases hq
      rw [hg] at hgq
      cases hgq
    rw [ih2 j q hjn hq hgq]
    show _ = ((flowTo ws s n).thr ++ [_])[j]?
    rw [List.getElem?_append_left (by omega)]
/-- As much flows through all outlets that are left as before. -/
theorem less_flow : (flowF R (lessWa ws c0 s)).thr = (keptI ws c0 (total ws)).map fun j => (flowF ws s).thr.getD j 0 := by
 have h := (less_flow_to hR hw hs (total ws) (Nat.le_refl _)).2
 rw [← less_total hR] at h
 apply List.ext_getElem?
 intro m
 by_cases hm : m < total R
 ·obtain ⟨p', hp'⟩ := at_total hm
  obtain ⟨n, p, o', hp, hg, h3, -⟩ := less_inv hR hp'
  have hk : keepB ws c0 n = true := by rw [keepB_at hp, hg]; rfl
  have := h n p (lt_total hp) hp hg
  rw [List.getElem?_map, ← h3, keptI_at hk (lt_total hp)]
  refine this.trans ?_
  show (flowF ws s).thr[n]? = some ((flowF ws s).thr.getD n 0)
  rw [List.getD_eq_getElem?_getD, List.getElem?_eq_getElem (by show n < (flowTo ws s (total ws)).thr.length; rw [thr_len ws s _ (Nat.le_refl _)]; exact lt_total hp)]
  rfl
 ·rw [List.getElem?_eq_none (by show (flowTo R _ (total R)).thr.length ≤ m; rw [thr_len R _ _ (Nat.le_refl _)]; omega), List.getElem?_eq_none (by rw [List.length_map, ← less_total hR]; omega)]
theorem less_wa : WaOk R (lessWa ws c0 s) := by
 obtain ⟨⟨z1, z2⟩, z3⟩ := less_zip hs
 have hx : ∀ (l : List Int), l.length = total ws → ∀ (i : Nat) p' x, (allP R)[i]? = some p' → ((keptI ws c0 (total ws)).map fun j => l.getD j 0)[i]? = some x → ∃ (n : Nat) (p : Pl), (allP ws)[n]? = some p ∧ l[n]? = some x ∧ p'.o.co = newO ws c0 p.o := fun l hl i p' x hp' hx => by
  obtain ⟨n, p, o', hp, hg, h3, rfl, h5⟩ := less_inv hR hp'
  have hk : keepB ws c0 n = true := by rw [keepB_at hp, hg]; rfl
  rw [List.getElem?_map, ← h3, keptI_at hk (lt_total hp)] at hx
  refine ⟨n, p, hp, ?_, h5⟩
  rw [← hx, List.getElem?_eq_getElem (by rw [hl]; exact lt_total hp)]
  simp [List.getD_eq_getElem?_getD, List.getElem?_eq_getElem (show n < l.length by rw [hl]; exact lt_total hp)]
 refine ⟨?_, ?_, ?_, ?_, fun x hx => ?_, fun i p' x hp' h => ?_, fun i p' x hp' h => ?_, fun i p' x hp' h => ?_⟩
 ·show (lessRiver ws c0 s.river (headsN ws).length).length = _
  unfold lessRiver
  rw [less_heads hR hw, List.length_map, List.length_map, List.take_of_length_le (by rw [z3]; exact Nat.le_refl _)]
  conv => rhs; rw [← z1]
  rw [List.filter_map, List.length_map]
  rfl
 ·show (List.map _ _).length = _
  rw [List.length_map, less_total hR]
 ·show (List.map _ _).length = _
  rw [List.length_map, less_total hR]
 ·show (List.map _ _).length = _
  rw [List.length_map, less_total hR]
 ·have hx : x ∈ lessRiver ws c0 s.river (headsN ws).length := hx
  unfold lessRiver at hx
  rw [List.mem_map] at hx
  obtain ⟨z, hz, rfl⟩ := hx
  rw [List.mem_filter] at hz
  refine hs.rr _ ?_
  rw [← z2]
  exact List.mem_map_of_mem (List.mem_of_mem_take hz.1)
 ·obtain ⟨n, p, hp, h1, h2⟩ := hx s.boards hs.b i p' x hp' h
  obtain ⟨-, -, -, e4, -⟩ := ouB_co h2
  rw [e4]
  exact hs.ob n p x hp h1
 ·obtain ⟨n, p, hp, h1, h2⟩ := hx s.leaks hs.k i p' x hp' h
  obtain ⟨-, -, -, -, e5, e6, -⟩ := ouB_co h2
  rw [e5, e6]
  exact hs.ok n p x hp h1
 ·obtain ⟨n, p, hp, h1, h2⟩ := hx s.losses hs.l i p' x hp' h
  obtain ⟨-, -, -, -, -, -, e5, e6⟩ := ouB_co h2
  rw [e5, e6]
  exact hs.ol n p x hp h1
end
/-- Right works pass the check. -/
theorem WOk.check {ws : Wk} (h : WOk ws) : CheckIs ws 0 :=
 .inr ⟨h.len, h.tot, .inr ⟨fun j q _ hq => .inr (.inr ⟨h.ok q (List.mem_of_getElem? hq), fun ⟨i, p, hi, hp, e⟩ => by
  have := h.one i j p q hp hq hi
  rcases e with e | ⟨e1, e2⟩
  ·exact this.1 e
  ·exact this.2 e1 e2, rfl⟩), rfl⟩⟩
end Go.Proofs.Ytkoacclbempmdaa

/- Contract of the program's Without. -/
namespace Go.Proofs.Ytkoacclbempmdaa
open Go.RowKit
attribute [local go_sem] Oper.semAt_some

/-- Slices have room for what they have. -/
def Room (v : Value) (ws : Wk) (w : World) : Prop := (∀ b o n c, v = .slice (some ⟨b, o, none⟩) n c → ∀ (k : Nat) os, ws[k]? = some os → ∀ A' n' c', w.cell? ⟨b, o + k, none⟩ = some (.slice A' n' c') → n' ≤ c') ∧ ∀ os ∈ ws, ∀ o ∈ os, o.ps.length ≤ o.pc
theorem Room.up {B : Nat} {v : Value} {ws : Wk} {w w' : World} (h : Room v ws w) (hk : RK B v ws w) (hb : Below B w w') : Room v ws w' := by
 refine ⟨fun b o n c e k os hos A' n' c' hc => ?_, h.2⟩
 obtain ⟨A2, c2, e2, -, hx⟩ := hk
 obtain ⟨b2, o2, e3, hlt, -⟩ := hx (by have := (List.getElem?_eq_some_iff.1 hos).1; omega)
 rw [e] at e2
 simp only [Value.slice.injEq] at e2
 rw [e3] at e2
 simp only [Option.some.injEq, Addr.mk.injEq, and_true] at e2
 obtain ⟨⟨rfl, rfl⟩, -, -⟩ := e2
 exact h.1 b o n c e k os hos A' n' c' ((hb.cell (p := ⟨b, o + k, none⟩) hlt).symm.trans hc)
theorem RK.carrier {B : Nat} {A : Option Addr} {n c : Nat} {ws : Wk} {w : World} (h : RK B (.slice A n c) ws w) {k : Nat} {os : List Ou} (hk : ws[k]? = some os) : ∃ b o A' c', A = some ⟨b, o, none⟩ ∧ b < B ∧ w.cell? ⟨b, o + k, none⟩ = some (.slice A' os.length c') ∧ RO B (.slice A' os.length c') os w := by
 obtain ⟨A2, c2, e, -, hx⟩ := h
 obtain ⟨b, o, e3, hlt, q⟩ := hx (by have := (List.getElem?_eq_some_iff.1 hk).1; omega)
 simp only [Value.slice.injEq] at e
 obtain ⟨u, h1, h2⟩ := q k os hk
 obtain ⟨A', c', rfl⟩ := h2.slice
 exact ⟨b, o, A', c', e.1.trans e3, hlt, h1, h2⟩
/-- One element is appended to a list of one's own. -/
theorem app1 {α : Type} {enc : α → List Value} {s : Nat} (E : Enc enc s) {W : World} {base q : Nat} {v : Value} {L : List α} {x : α} {t e : TypeId} {i : TypeInfo} {z : Value} {bytes : Nat} (ht : Try.prog.underlying t = some (.slice e)) (hi : Try.prog.info? e = some i) (hz : i.zero = some z) (hsize : i.size = s) (hby : i.bytes = bytes) (hzs : z.cells.size = s)
  (hv : OwnG enc s e base v L W) (hq : ∀ j u, (enc x)[j]? = some u → W.cell? ⟨q, j, none⟩ = some u) (hbase : base ≤ W.heap.size) (hl : L.length ≤ 1000) (hbb : bytes ≤ 1000) :
  ∃ v' W', (Builtin.append_ #[t, t] t #[v, .slice (some ⟨q, 0, none⟩) 1 1]).run Try.prog W = .ok v' W' ∧ OwnG enc s e base v' (L ++ [x]) W' ∧ GrownL v.ownBlock.toList W W' ∧ (v'.ownBlock = v.ownBlock ∨ v'.ownBlock = some W.heap.size) := by
 have hmul : (L.length + 1) * bytes ≤ 140737488355328 := Nat.le_trans (Nat.mul_le_mul (show L.length + 1 ≤ 2000000 by omega) hbb) (by decide)
 obtain ⟨v', W', k1, k2, k3, k4⟩ := app_row (P := Try.prog) W base t t e i z s bytes ht hi hz hsize hby hzs E.pos v L.length (L.flatMap enc) hv (some ⟨q, 0, none⟩) 1 1 (enc x) (by rw [E.len, Nat.one_mul]) (fun _ => ⟨_, rfl, fun j u hj => by rw [addr_add, Nat.zero_add]; exact hq j u hj⟩) (E.one x) (by unfold maxLen; omega) hmul hbase
 refine ⟨v', W', k1, ?_, GrownL.of_row k3, k4⟩
 unfold OwnG
 rw [List.flatMap_append, List.length_append, List.flatMap_cons, List.flatMap_nil, List.append_nil]
 exact k2
section
variable {ops : Array Oper} {o : Oper} {a : Act} {w : World} {K : Act → World → Prop} {Q : Exit → Act → World → Prop} {E : Prop}
/-- An append whose run is known, as a step of a region that draws. -/
theorem step_ap1 (t : TypeId) (hg : o.guard = none) (s x : Operand) (t1 t2 : TypeId) (hop : o.op = Op.call { callee := Callee.builtin Builtin.append, args := #[s, x], argTypes := #[t1, t2] }) (hty : o.type = t) (u y : Value) (hs : a.eval s = u) (hx : a.eval x = y) {v' : Value} {w' : World}
  (hrun : (Builtin.append_ #[t1, t2] t #[u, y]).run Try.prog w = .ok v' w') (hK : K (a.put o.dst v') w') : if Region.wanted o (yielded ops a.tmps) = true then Oper.wp Try.prog o a w K Q else E := by
 subst hty
 have hw : Region.wanted o (yielded ops a.tmps) = true := by simp [Region.wanted, hg]
 rw [if_pos hw]
 unfold Oper.wp
 simp [execOp, hop, resolve, invoke, builtin, hs, hx, hrun, Result.andThen]
 exact hK
end
theorem infoCarrier : (Try.prog.info? 38).map (fun i => (i.zero, i.size, i.bytes)) = some (some (.agg #[.slice none 0 0]), 1, 24) := by kernel_rfl
/-- What Without returns. -/
def WoIs (ws : Wk) (d n : Int) (base : Nat) (v : Value) (E : Int) (W : World) : Prop :=
 ∃ L, Deep base v L W ∧ ((d ≠ 0 ∧ E = d ∧ L = []) ∨ (d = 0 ∧ (n < 0 ∨ (ws.length : Int) ≤ n) ∧ E = 5 ∧ L = []) ∨ (d = 0 ∧ ∃ c0 : Nat, n = c0 ∧ c0 < ws.length ∧ E = 0 ∧ IsLess ws c0 (L.map (·.os))))
/-- What Without holds in its first blocks. -/
structure WoS (w : World) (v : Value) (W : World) : Prop where
 c : W.cell? ⟨w.heap.size, 0, none⟩ = some v
 r : W.cell? ⟨w.heap.size + 1, 0, none⟩ = some (.slice none 0 0)
 rf : W.frozen? ⟨w.heap.size + 1, 0, none⟩ = false
 bel : Below w.heap.size w W
theorem WoS.siz {w W : World} {v : Value} (h : WoS w v W) : w.heap.size + 2 ≤ W.heap.size := World.block_lt_of_cell? _ _ h.r
theorem WoS.grown {w W W' : World} {v : Value} {bs : List Nat} (h : WoS w v W) (hg : GrownL bs W W') (hn : ∀ b ∈ bs, w.heap.size + 2 ≤ b) : WoS w v W' := by
 have n : ∀ k, k ≤ w.heap.size + 1 → k ∉ bs := fun k hk hm => by have := hn k hm; omega
 exact ⟨hg.cell h.c (n _ (by show w.heap.size ≤ _; omega)), hg.cell h.r (n _ (Nat.le_refl _)), (World.frozen?_of_block (hg.block _ (World.block_lt_of_cell? _ _ h.r) (n _ (Nat.le_refl _)))).trans h.rf, h.bel.trans (hg.below (fun b hb => by have := hn b hb; omega) h.bel.size)⟩
theorem WoS.below {w W W' : World} {v : Value} (h : WoS w v W) (hb : Below W.heap.size W W') : WoS w v W' := h.grown (GrownL.of_below (bs := []) hb) (by simp)

/-- The numbers, and the works so far. -/
structure WoL (h2 : Nat) (f : Nat → Int) (lv : Value) (L : List Kr) (W : World) : Prop where
 n : Num h2 f W
 l : W.cell? ⟨h2 + 1, 0, none⟩ = some lv
 lf : W.frozen? ⟨h2 + 1, 0, none⟩ = false
 dp : Deep (h2 + 2) lv L W
theorem WoL.below {h2 : Nat} {f : Nat → Int} {lv : Value} {L : List Kr} {W W' : World} (h : WoL h2 f lv L W) (hb : Below W.heap.size W W') : WoL h2 f lv L W' :=
 ⟨h.n.grown (GrownL.of_below (bs := []) hb) (by simp), BelS.c hb h.l, (hb.frozen (p := ⟨h2 + 1, 0, none⟩) (World.block_lt_of_cell? _ _ h.l)).trans h.lf, h.dp.below hb⟩

set_option maxHeartbeats 8000000 in
set_option maxRecDepth 1000000 in
theorem without_any (A : Option Addr) (c : Nat) (ws : Wk) (n d : Int) (w : World) (h : RK w.heap.size (.slice A ws.length c) ws w) (hr : Room (.slice A ws.length c) ws w) (ht : total ws ≤ 100000) (hd : CheckIs ws d) (hps : ∀ os ∈ ws, ∀ o ∈ os, o.ps.length ≤ 100000) :
  Calls Try.prog 43 #[.agg #[.slice A ws.length c], .int .i64 n] w fun e w' => ∃ v E, e = .returned (.tuple #[.agg #[v], .int .i64 E]) ∧ WoIs ws d n w.heap.size v E w' ∧ Below w.heap.size w w' := by
 have H := Lib.hid h
 have HR := Lib.hid hr
 have HD := Lib.hid hd
 have HPS := Lib.hid hps
 obtain ⟨W0, hW0⟩ : ∃ W0, ((w.alloc (.cells #[.slice A ws.length c] 24)).alloc (.cells #[.slice none 0 0] 24)) = W0 := ⟨_, rfl⟩
 have S : Hid (WoS w (.slice A ws.length c) W0) := Lib.hid ⟨by rw [← hW0]; simp [go_sem], by rw [← hW0]; simp [go_sem], by rw [← hW0]; simp [go_sem], by rw [← hW0]; exact ((Below.refl _ _).alloc (Nat.le_refl _) _).alloc (by simp) _⟩
 have CC := Lib.hid (check_any (.slice A ws.length c) ws d W0 (h.up S.out.bel.size S.out.bel) (by omega) hd)
 have x0 := S.out.c
 have hnb : (ws.length : Int) ≤ 1000000000000000 := by obtain ⟨_, _, _, hf, _⟩ := h; have hf : ws.length ≤ 1000000000000000 := hf; omega
 clear h hr ht hd hps
 go_enter Try.func43, Try.ntmps43
 go_wp2_with fail
 refine CC.out.mono ?_
 rintro e w1 ⟨rfl, b1⟩
 replace S := Lib.hid (S.out.below b1)
 clear b1 CC x0 hW0
 by_cases hd0 : d = 0
 rotate_left
 ·have hdb : (d != 0) = true := by rw [bne_iff_ne]; exact hd0
  have x0 := S.out.r
  have x1 := S.out.rf
  go_wp2_with fail
  have g1 : GrownL [w.heap.size + 1] w1 (w1.setCell ⟨w.heap.size + 1, 0, none⟩ (.slice none 0 0)) := GrownL.set _ _ _ (by simp)
  have p0 : (w1.setCell ⟨w.heap.size + 1, 0, none⟩ (.slice none 0 0)).cell? ⟨w.heap.size + 1, 0, none⟩ = some (.slice none 0 0) := World.cell?_setCell_same' _ _ _ (by rw [x0]; rfl)
  obtain ⟨Wf, hWf⟩ : ∃ Wf, w1.setCell ⟨w.heap.size + 1, 0, none⟩ (.slice none 0 0) = Wf := ⟨_, rfl⟩
  rw [hWf] at g1 p0 ⊢
  refine bodyPost_ret (v := .tuple #[.agg #[.slice none 0 0], .int .i64 d]) (by simp [results, Try.results43, go_sem, p0]) rfl ?_
  exact ⟨_, _, rfl, ⟨[], Deep.nil _ _, .inl ⟨hd0, rfl, rfl⟩⟩, S.out.bel.trans (g1.below (by simp) S.out.bel.size)⟩
 subst hd0
 have HW := Lib.hid HD.out.ok
 by_cases hn : n < 0
 ·have hnd : decide (n < 0) = true := decide_eq_true hn
  have x0 := S.out.r
  have x1 := S.out.rf
  go_wp2_with fail
  have g1 : GrownL [w.heap.size + 1] w1 (w1.setCell ⟨w.heap.size + 1, 0, none⟩ (.slice none 0 0)) := GrownL.set _ _ _ (by simp)
  have p0 : (w1.setCell ⟨w.heap.size + 1, 0, none⟩ (.slice none 0 0)).cell? ⟨w.heap.size + 1, 0, none⟩ = some (.slice none 0 0) := World.cell?_setCell_same' _ _ _ (by rw [x0]; rfl)
  obtain ⟨Wf, hWf⟩ : ∃ Wf, w1.setCell ⟨w.heap.size + 1, 0, none⟩ (.slice none 0 0) = Wf := ⟨_, rfl⟩
  rw [hWf] at g1 p0 ⊢
  refine bodyPost_ret (v := .tuple #[.agg #[.slice none 0 0], .int .i64 5]) (by simp [results, Try.results43, go_sem, p0]) rfl ?_
  exact ⟨_, _, rfl, ⟨[], Deep.nil _ _, .inr (.inl ⟨rfl, .inl hn, rfl, rfl⟩)⟩, S.out.bel.trans (g1.below (by simp) S.out.bel.size)⟩
 by_cases hnl : (ws.length : Int) ≤ n
 ·have x0 := S.out.r
  have x1 := S.out.rf
  have x2 := S.out.c
  go_wp2_with fail
  have g1 : GrownL [w.heap.size + 1] w1 (w1.setCell ⟨w.heap.size + 1, 0, none⟩ (.slice none 0 0)) := GrownL.set _ _ _ (by simp)
  have p0 : (w1.setCell ⟨w.heap.size + 1, 0, none⟩ (.slice none 0 0)).cell? ⟨w.heap.size + 1, 0, none⟩ = some (.slice none 0 0) := World.cell?_setCell_same' _ _ _ (by rw [x0]; rfl)
  obtain ⟨Wf, hWf⟩ : ∃ Wf, w1.setCell ⟨w.heap.size + 1, 0, none⟩ (.slice none 0 0) = Wf := ⟨_, rfl⟩
  rw [hWf] at g1 p0 ⊢
  refine bodyPost_ret (v := .tuple #[.agg #[.slice none 0 0], .int .i64 5]) (by simp [results, Try.results43, go_sem, p0]) rfl ?_
  exact ⟨_, _, rfl, ⟨[], Deep.nil _ _, .inr (.inl ⟨rfl, .inr hnl, rfl, rfl⟩)⟩, S.out.bel.trans (g1.below (by simp) S.out.bel.size)⟩
 obtain ⟨c0, rfl⟩ : ∃ c0 : Nat, n = c0 := ⟨n.toNat, by omega⟩
 have hc0 : c0 < ws.length := by omega
 have hc1 : (c0 : Int) < (ws.length : Int) := by omega
 have hc2 : (0 : Int) ≤ (c0 : Int) := by omega
 have CN := Lib.hid (numbersWithout_any A ws.length c c0 ws w1 (H.out.up S.out.bel.size S.out.bel) HW.out hc0)
 have x0 := S.out.c
 go_wp2_with fail
 refine CN.out.mono ?_
 rintro e w2 ⟨rfl, b2⟩
 replace S := Lib.hid (S.out.below b2)
 clear b2 CN x0 hn hnl
 obtain ⟨f, hf⟩ : ∃ f, numT ws c0 ws.length = f := ⟨_, rfl⟩
 have HF := Lib.hid hf
 rw [hf]
 clear hf
 obtain ⟨h2, hh2⟩ : ∃ h2, w2.heap.size = h2 := ⟨_, rfl⟩
 obtain ⟨W3, hW3⟩ : ∃ W3, (w2.alloc (.cells #[.int .i64 (f 0), .int .i64 (f 1), .int .i64 (f 2), .int .i64 (f 3), .int .i64 (f 4), .int .i64 (f 5), .int .i64 (f 6), .int .i64 (f 7), .int .i64 (f 8), .int .i64 (f 9), .int .i64 (f 10), .int .i64 (f 11), .int .i64 (f 12), .int .i64 (f 13), .int .i64 (f 14), .int .i64 (f 15)] 121)).alloc (.cells #[.slice none 0 0] 24) = W3 := ⟨_, rfl⟩
 have b3 : Below w2.heap.size w2 W3 := by rw [← hW3]; exact ((Below.refl _ _).alloc (Nat.le_refl _) _).alloc (by simp) _
 have HL0 : Hid (WoL h2 f (.slice none 0 0) [] W3) := Lib.hid (by
  refine ⟨fun d hd => ?_, by rw [← hW3, ← hh2]; simp [go_sem], by rw [← hW3, ← hh2]; simp [go_sem], Deep.nil _ _⟩
  rw [← hW3, ← hh2]
  rcases lt16 hd with rfl | rfl | rfl | rfl | rfl | rfl | rfl | rfl | rfl | rfl | rfl | rfl | rfl | rfl | rfl | rfl <;> exact ⟨by simp [go_sem], by simp [go_sem]⟩)
 have HB2 := Lib.hid (And.intro S.out.siz hh2)
 replace S := Lib.hid (S.out.below b3)
 have x0 := S.out.c
 clear b3
 go_wp2_with fail
 clear hW3 x0 hh2
 have HCV : Hid ((∀ (k : Nat) os, ws[k]? = some os → os.length ≤ 100000) ∧ ∀ (k : Nat) os, ws[k]? = some os → ∀ x ∈ os, x.into < 16) := Lib.hid ⟨fun k os hos => by
  have h1 := HW.out.tot
  have h2 := pre_le ws (k + 1)
  rw [pre_succ hos] at h2
  omega, fun k os hos x hx => by
  obtain ⟨n, hn⟩ := List.mem_iff_getElem?.1 hx
  have hp := allP_get hos hn
  rcases HW.out.into (List.mem_of_getElem? hp) with h | ⟨j, h, -, -, h4⟩
  ·have h : x.into = -1 := h
   omega
  ·have h : x.into = j := h
   omega⟩
 go_loopw [33] (fun u wr => ∃ (k : Nat) (lv : Value) (L : List Kr), u = .int .i64 k ∧ k ≤ ws.length ∧ WoS w (.slice A ws.length c) wr ∧ WoL h2 f lv L wr ∧ (L.map (·.os)).map (fun os => os.map Ou.co) = wOut ws c0 k) (fun u _ => ws.length - (intOf u).toNat)
 case atStart => exact ⟨0, _, [], rfl, by omega, S.out, HL0.out, rfl⟩
 case round =>
  obtain ⟨k, lv, L, rfl, hk, hS, hL, hw⟩ := hrel
  have HS := Lib.hid hS
  have HL := Lib.hid hL
  have HWO := Lib.hid hw
  clear hS hL hw
  by_cases hkl : k < ws.length
  ·have hk0 : (k : Int) < (ws.length : Int) := by omega
   have hk16 : k < 16 := by have := HW.out.len; omega
   have hk1 : (k : Int) < 16 := by omega
   have hk2 : (0 : Int) ≤ (k : Int) := by omega
   obtain ⟨os, hos⟩ : ∃ os, ws[k]? = some os := ⟨_, List.getElem?_eq_getElem hkl⟩
   obtain ⟨b, o, A', c', hA, hb, hcell, hro⟩ := H.out.carrier hos
   have HRO := Lib.hid (And.intro hro (HR.out.1 b o ws.length c (by rw [hA]) k os hos _ _ _ hcell))
   have HOS := Lib.hid hos
   subst hA
   have x1 := (HS.out.bel.cell (p := ⟨b, o + k, none⟩) hb).trans hcell
   have HCE := Lib.hid (And.intro hb hcell)
   clear hro hos hcell hb
   have n1 := (HL.out.n k hk16).1
   have hfk : f k = numI ws c0 k := by rw [← HF.out]; unfold numT; rw [if_pos hkl]
   cases hg : goneB ws c0 k
   ·have hfk : f k = (numN ws c0 k : Int) := by rw [hfk]; unfold numI; rw [hg]; rfl
    have HG := Lib.hid hg
    have HFK : Hid (f k = ((numN ws c0 k : Nat) : Int)) := Lib.hid hfk
    rw [hfk] at n1
    have n2 : (0 : Int) ≤ (numN ws c0 k : Int) := by omega
    obtain ⟨q, hq⟩ : ∃ q, numN ws c0 k = q := ⟨_, rfl⟩
    rw [hq] at n1 n2 HFK
    have HQ := Lib.hid hq
    have HLB : Hid (∀ b ∈ lv.ownBlock.toList, b < wr.heap.size) := Lib.hid fun b hb => (HL.out.dp.1.lt b (by simpa using hb)).2
    clear hg hfk hq
    obtain ⟨W4, hW4⟩ : ∃ W4, wr.alloc (.cells #[.slice A' os.length c'] 38) = W4 := ⟨_, rfl⟩
    have b4 : Below wr.heap.size wr W4 := by rw [← hW4]; exact (Below.refl _ _).alloc (Nat.le_refl _) _
    have y1 : W4.cell? ⟨wr.heap.size, 0, none⟩ = some (.slice A' os.length c') := by rw [← hW4]; simp [go_sem]
    have HY1 := Lib.hid y1
    replace HS := Lib.hid (HS.out.below b4)
    replace HL := Lib.hid (HL.out.below b4)
    clear n1 b4 y1
    have n1 : W4.cell? ⟨h2, k, none⟩ = some (.int .i64 q) := by have := (HL.out.n k hk16).1; rw [HFK.out] at this; exact this
    go_upto_region 12 with fail
    have hlv : ∃ Al cl, lv = .slice Al L.length cl := by obtain ⟨Al, cl, e, -⟩ := HL.out.dp.1.form; exact ⟨Al, cl, e⟩
    have hLL : L.length = q := by have := congrArg List.length HWO.out; rw [List.length_map, List.length_map, wOut_len, HQ.out] at this; exact this
    obtain ⟨Al, cl, rfl⟩ := hlv
    have HLL := Lib.hid hLL
    clear hLL
    obtain ⟨Wd, hWd⟩ : ∃ Wd, World.drew W4 = Wd := ⟨_, rfl⟩
    have bWd : Below W4.heap.size W4 Wd := by rw [← hWd]; exact (Below.refl _ _).drew
    have Sd := Lib.hid (HS.out.below bWd)
    have Ld := Lib.hid (HL.out.below bWd)
    have HY2 := Lib.hid (BelS.c bWd HY1.out)
    have OWN : Hid (∀ b ∈ (Value.slice Al L.length cl).ownBlock.toList, h2 + 2 ≤ b ∧ b < Wd.heap.size) := Lib.hid (fun b hb => Ld.out.dp.1.lt b (by simpa using hb))
    have KEEP : Hid (∀ W', GrownL (Value.slice Al L.length cl).ownBlock.toList Wd W' → WoS w (.slice (some ⟨b, o, none⟩) ws.length c) W' ∧ Num h2 f W' ∧ W'.cell? ⟨h2 + 1, 0, none⟩ = some (.slice Al L.length cl) ∧ W'.frozen? ⟨h2 + 1, 0, none⟩ = false) := Lib.hid fun W' hW => by
     have hz := HB2.out
     have hn : ∀ b, b < h2 + 2 → b ∉ (Value.slice Al L.length cl).ownBlock.toList := fun b hb hm => by have := (OWN.out _ hm).1; omega
     exact ⟨Sd.out.grown hW (fun b hb => by have := (OWN.out b hb).1; omega), Ld.out.n.grown hW (hn _ (by omega)), hW.cell Ld.out.l (hn _ (by simp)), (World.frozen?_of_block (a := ⟨h2 + 1, 0, none⟩) (hW.block _ (World.block_lt_of_cell? _ _ Ld.out.l) (hn _ (by simp)))).trans Ld.out.lf⟩
    have hpb : wr.heap.size ∉ (Value.slice Al L.length cl).ownBlock.toList := fun hm => by have := HLB.out _ hm; omega
    have HPB := Lib.hid hpb
    have HWd := Lib.hid hWd
    clear hWd bWd n1 hpb
    refine wp_region_T 8 (S := GrownL (Value.slice Al L.length cl).ownBlock.toList (World.drew W4)) (by kernel_rfl) (GrownL.refl _ _) (fun J0 => ?_)
    rw [HWd.out] at J0 ⊢
    refine tt 0 42 J0 ?_
    try simp only [aS]
    refine tt 1 43 J0 ?_ (hy := by intro w' hSw; obtain ⟨-, qn, q1, q2⟩ := KEEP.out w' hSw; go_simp; try with_reducible rfl)
    try simp only [aS]
    refine tt 2 44 J0 ?_ (hy := by intro w' hSw; have q3 := hSw.cell HY2.out HPB.out; go_simp; try with_reducible rfl)
    try simp only [aS]
    refine tt 3 45 J0 ?_ (hy := by intro w' hSw; obtain ⟨-, qn, q1, q2⟩ := KEEP.out w' hSw; have r0 := (qn 0 (by decide)).1; have r1 := (qn 1 (by decide)).1; have r2 := (qn 2 (by decide)).1; have r3 := (qn 3 (by decide)).1; have r4 := (qn 4 (by decide)).1; have r5 := (qn 5 (by decide)).1; have r6 := (qn 6 (by decide)).1; have r7 := (qn 7 (by decide)).1; have r8 := (qn 8 (by decide)).1; have r9 := (qn 9 (by decide)).1; have r10 := (qn 10 (by decide)).1; have r11 := (qn 11 (by decide)).1; have r12 := (qn 12 (by decide)).1; have r13 := (qn 13 (by decide)).1; have r14 := (qn 14 (by decide)).1; have r15 := (qn 15 (by decide)).1; go_simp; try with_reducible rfl)
    try simp only [aS]
    refine oneT (i := 4) (by kernel_rfl) rfl (fun K hK => ?_)
    go_simp
    have hbW := Sd.out.bel
    refine (renumbered_any A' c' os f Wd (HRO.out.1.up hbW.size hbW) HRO.out.2 (HCV.out.1 k os HOS.out) (fun x hx => ⟨HR.out.2 os (List.mem_of_getElem? HOS.out) x hx, HPS.out os (List.mem_of_getElem? HOS.out) x hx⟩) (HCV.out.2 k os HOS.out)).mono ?_
    rintro e wq ⟨ru, R, rfl, oR, oP, cR, bq⟩
    have J1 := J0.trans (GrownL.of_below (bs := (Value.slice Al L.length cl).ownBlock.toList) bq)
    have Lq := Lib.hid (Ld.out.below bq)
    have hRl : R.length = os.length := by have := congrArg List.length cR; rwa [List.length_map, List.length_map] at this
    obtain ⟨Ar, cr, rfl, -⟩ := oR.form
    have KX : Hid (KrOk (h2 + 2) (.slice Al L.length cl) ⟨Ar, cr, R⟩ wq) := Lib.hid (by
     refine ⟨RO.of_rr (oR.rr EO (by have := HCV.out.1 k os HOS.out; show R.length ≤ 1000000000000000; omega)) (fun x hx => rr_ri ((oP x hx).rr EI (by
      have : x.co ∈ os.map (fun o => o.to (toF f o)) := by rw [← cR]; exact List.mem_map_of_mem hx
      obtain ⟨y, hy, e⟩ := List.mem_map.1 this
      have e2 := (ouB_co e.symm).2.2.2.1
      have := HPS.out os (List.mem_of_getElem? HOS.out) y hy
      show x.ps.length ≤ 1000000000000000
      rw [e2]
      omega))), fun hp g hg2 => Nat.le_trans (by have := Sd.out.siz; have := HB2.out; have := World.block_lt_of_cell? _ _ Ld.out.l; simp at this; omega) (oR.lt g hg2).1, fun x hx hp g hg2 => Nat.le_trans (by have := Sd.out.siz; have := HB2.out; have := World.block_lt_of_cell? _ _ Ld.out.l; simp at this; omega) ((oP x hx).lt g hg2).1, fun hp g hg hg2 => ?_, fun x hx hp g hg hg2 => ?_⟩
     ·have h1 := (OWN.out g (by rw [hg]; simp)).2
      have h2 := (oR.lt g hg2).1
      omega
     ·have h1 := (OWN.out g (by rw [hg]; simp)).2
      have h2 := ((oP x hx).lt g hg2).1
      omega)
    have HCR := Lib.hid cR
    refine hK.out _ _ J1 ?_
    clear hK K oR oP cR hRl
    try simp only [aS]
    refine oneT (i := 5) (by kernel_rfl) rfl (fun K hK => ?_)
    go_simp
    obtain ⟨wa, hwa⟩ : ∃ W_, wq.alloc (.cells #[.slice Ar R.length cr] 38) = W_ := ⟨_, rfl⟩
    have ba : Below wq.heap.size wq wa := by rw [← hwa]; exact (Below.refl _ _).alloc (Nat.le_refl _) _
    have J2 : GrownL (Value.slice Al L.length cl).ownBlock.toList Wd wa := J1.trans (GrownL.of_below ba)
    have ca : wa.cell? ⟨wq.heap.size, 0, none⟩ = some (.slice Ar R.length cr) := by rw [← hwa]; simp [go_sem]
    rw [hwa]
    have La := Lib.hid (Lq.out.below ba)
    have Ka := Lib.hid (KX.out.below ba)
    clear hwa
    refine hK.out _ _ J2 ?_
    clear hK K
    try simp only [aS]
    obtain ⟨i0, hz0, hj0, hj1, hj2⟩ := info_parts infoCarrier
    obtain ⟨v4, w4, r4, o4, g4, d4⟩ := app1 (x := (⟨Ar, cr, R⟩ : Kr)) EK Try.underlying22 hz0 hj0 hj1 hj2 rfl La.out.dp.1 (q := wq.heap.size) (fun j u hj => by
     match j, hj with
     | 0, hj => simp [encK] at hj; subst hj; exact ca
     | j + 1, hj => simp [encK] at hj) (by have := HB2.out; have := Sd.out.siz; have := World.block_lt_of_cell? _ _ La.out.l; simp at this; omega) (by have := HLL.out; have h9 := numN_le ws c0 k; rw [HQ.out] at h9; omega) (by decide)
    have D4 := Lib.hid (La.out.dp.app Ka.out o4 g4 d4)
    have J3 := J2.trans g4
    have O4 := Lib.hid o4
    obtain ⟨A4, c4, rfl, -⟩ := o4.form
    obtain ⟨y4, z4⟩ := (KEEP.out _ J3).2.2
    obtain ⟨n4, hn4⟩ : ∃ n4, (L ++ [(⟨Ar, cr, R⟩ : Kr)]).length = n4 := ⟨_, rfl⟩
    rw [hn4] at D4 r4
    refine oneT (i := 6) (by kernel_rfl) rfl (fun K hK => ?_)
    refine step_ap1 22 rfl _ _ 22 22 rfl rfl (.slice Al L.length cl) (.slice (some ⟨wq.heap.size, 0, none⟩) 1 1) rfl rfl r4 ?_
    refine hK.out _ _ J3 ?_
    clear hK K r4 o4 g4 d4 ca ba
    try simp only [aS]
    refine tt 7 49 J3 ?_
    try simp only [aS]
    refine lastT (by kernel_rfl) rfl (fun K hK => ?_)
    go_simp
    refine hK.out _ _ ?_
    clear hK K
    try simp only [aS]
    refine doneT (by kernel_rfl) ?_ _
    obtain ⟨Wn, hWn⟩ : ∃ Wo, w4.setCell ⟨h2 + 1, 0, none⟩ (.slice A4 n4 c4) = Wo := ⟨_, rfl⟩
    have gn : GrownL [h2 + 1] w4 Wn := by rw [← hWn]; exact GrownL.set _ _ _ (by simp)
    have kk := KEEP.out _ J3
    have hz := HB2.out
    have SN := Lib.hid (kk.1.grown gn (by simp; omega))
    have DN := Lib.hid (D4.out.older gn (by simp))
    have LN : Hid (WoL h2 f (.slice A4 n4 c4) (L ++ [⟨Ar, cr, R⟩]) Wn) := Lib.hid ⟨kk.2.1.grown gn (by simp), by rw [← hWn]; exact World.cell?_setCell_same' _ _ _ (by rw [kk.2.2.1]; rfl), by rw [← hWn]; exact (World.frozen?_setCell _ _ _ _).trans kk.2.2.2, DN.out⟩
    rw [hWn]
    clear hWn J0 J1 J2 J3 bq y4 z4 KEEP OWN HWd Sd Ld HS HL kk gn D4 DN O4 La Ka Lq KX hn4 hbW hW4 x1
    go_wp2_with fail
    go_roundw
    case rel => exact ⟨k + 1, _, _, by go_num, by omega, SN.out, LN.out, by
     rw [wOut_left HG.out HOS.out, ← HWO.out, List.map_append, List.map_append]
     congr 1
     show [R.map Ou.co] = _
     rw [HCR.out]
     congr 1
     apply List.map_congr_left
     intro x hx
     unfold newO
     congr 1
     have h8 := HCV.out.2 k os HOS.out x hx
     obtain ⟨n, hn⟩ := List.mem_iff_getElem?.1 hx
     have hp := allP_get HOS.out hn
     unfold toF newTo
     by_cases h0 : 0 ≤ x.into
     ·rw [if_pos h0, if_pos h0, ← HF.out]
      unfold numT
      rw [if_pos]
      rcases HW.out.into (List.mem_of_getElem? hp) with h | ⟨j, h, -, h4, -⟩
      ·have h : x.into = -1 := h
       omega
      ·have h : x.into = j := h
       omega
     ·rw [if_neg h0, if_neg h0]⟩
    case measure => show ws.length - ((k : Int) + 1).toNat < ws.length - (k : Int).toNat; omega
   ·have hfk : f k = -1 := by rw [hfk]; unfold numI; rw [hg]; rfl
    have HG := Lib.hid hg
    rw [hfk] at n1
    clear hg hfk
    obtain ⟨W4, hW4⟩ : ∃ W4, wr.alloc (.cells #[.slice A' os.length c'] 38) = W4 := ⟨_, rfl⟩
    have b4 : Below wr.heap.size wr W4 := by rw [← hW4]; exact (Below.refl _ _).alloc (Nat.le_refl _) _
    have n2 := BelS.c b4 n1
    have S4 := Lib.hid (HS.out.below b4)
    have L4 := Lib.hid (HL.out.below b4)
    clear n1 b4
    go_wp2_with fail
    go_roundw
    case rel => exact ⟨k + 1, lv, L, by go_num, by omega, S4.out, L4.out, by rw [wOut_gone HG.out]; exact HWO.out⟩
    case measure => show ws.length - ((k : Int) + 1).toNat < ws.length - (k : Int).toNat; omega
  ·have hk0 : (ws.length : Int) ≤ (k : Int) := by omega
   obtain rfl : k = ws.length := by omega
   have hlv : ∃ Al cl, lv = .slice Al L.length cl := by obtain ⟨Al, cl, e, -⟩ := HL.out.dp.1.form; exact ⟨Al, cl, e⟩
   obtain ⟨Al, cl, rfl⟩ := hlv
   have x0 := HS.out.r
   have x1 := HS.out.rf
   have x2 := HL.out.l
   go_wp2_with fail
   have g1 : GrownL [w.heap.size + 1] wr (wr.setCell ⟨w.heap.size + 1, 0, none⟩ (.slice Al L.length cl)) := GrownL.set _ _ _ (by simp)
   have p0 : (wr.setCell ⟨w.heap.size + 1, 0, none⟩ (.slice Al L.length cl)).cell? ⟨w.heap.size + 1, 0, none⟩ = some (.slice Al L.length cl) := World.cell?_setCell_same' _ _ _ (by rw [x0]; rfl)
   obtain ⟨Wf, hWf⟩ : ∃ Wf, wr.setCell ⟨w.heap.size + 1, 0, none⟩ (.slice Al L.length cl) = Wf := ⟨_, rfl⟩
   rw [hWf] at g1 p0 ⊢
   have hz := HB2.out
   refine bodyPost_ret (v := .tuple #[.agg #[.slice Al L.length cl], .int .i64 0]) (by simp [results, Try.results43, go_sem, p0]) rfl ?_
   exact ⟨_, _, rfl, ⟨L, (HL.out.dp.older g1 (by simp; omega)).lower (by omega), .inr (.inr ⟨rfl, c0, rfl, hc0, rfl, HWO.out⟩)⟩, HS.out.bel.trans (g1.below (by simp) HS.out.bel.size)⟩
end Go.Proofs.Ytkoacclbempmdaa

/- A carrier, an outlet, in memory; a number behind a list. -/
namespace Go.Proofs.Ytkoacclbempmdaa
open Go.RowKit
theorem rk_at {B n c k : Nat} {A : Option Addr} {ws : Wk} {os : List Ou} {w : World} (h : RK B (.slice A n c) ws w) (hos : ws[k]? = some os) : ∃ b o, A = some ⟨b, o, none⟩ ∧ b < B ∧ ∃ u, w.cell? ⟨b, o + k, none⟩ = some u ∧ ∃ A1 c1, u = .slice A1 os.length c1 ∧ RO B u os w := by
 obtain ⟨A0, c0, e0, -, hx⟩ := h
 have hk := (List.getElem?_eq_some_iff.1 hos).1
 simp only [Value.slice.injEq] at e0
 obtain ⟨rfl, -, -⟩ := e0
 obtain ⟨b, o, e1, e2, e3⟩ := hx (by omega)
 obtain ⟨u, hu, hr⟩ := e3 k os hos
 obtain ⟨a, cc, e⟩ := hr.slice
 exact ⟨b, o, e1, e2, u, hu, a, cc, e, hr⟩
theorem ro_at {B n c j : Nat} {A : Option Addr} {os : List Ou} {p : Ou} {w : World} (h : RO B (.slice A n c) os w) (hp : os[j]? = some p) : ∃ b o, A = some ⟨b, o, none⟩ ∧ b < B ∧ OuAt B b (o + j * 7) p w := by
 obtain ⟨A0, c0, e0, -, hx⟩ := h
 have hj := (List.getElem?_eq_some_iff.1 hp).1
 simp only [Value.slice.injEq] at e0
 obtain ⟨rfl, -, -⟩ := e0
 obtain ⟨b, o, e1, e2, e3⟩ := hx (by omega)
 exact ⟨b, o, e1, e2, e3 j p hp⟩
theorem own_snoc {W : World} {base n : Nat} {v : Value} {l : List Int} {y : Int} (h : W.ownsRow base 3 1 v (n + 1) (l.flatMap encI ++ [.int .i64 y])) (hn : l.length = n) : OwnG encI 1 3 base v (l ++ [y]) W := by
 unfold OwnG
 rw [List.flatMap_append, List.length_append, hn]
 exact h
theorem new_set (W : World) (a : Addr) (v x : Value) (t : TypeId) (i : Nat) (u : Value) (hi : [x][i]? = some u) : ((W.setCell a v).alloc (.cells #[x] t)).cell? ((⟨W.heap.size, 0, none⟩ : Addr).add i) = some u := by
 have := one_news (W.setCell a v) x t i u hi
 rwa [show (W.setCell a v).heap.size = W.heap.size by simp] at this

end Go.Proofs.Ytkoacclbempmdaa
