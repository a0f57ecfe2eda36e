/- Signs: plain mathematics, and what signsOf keeps. -/
import Derived.Test.YtkoacclbempmdaaGS
namespace Go.Proofs.Ytkoacclbempmdaa
open Go.RowKit

/-- How many outlets of a carrier there are up to the one with one of some IDs, by some outlets. -/
def endS (ids : List Int) (s : List Pl) (c : Nat) : Nat := s.foldl (fun a p => if p.o.id ∈ ids ∧ p.c = c then p.n + 1 else a) 0
theorem endS_snoc (ids : List Int) (s : List Pl) (p : Pl) (c : Nat) : endS ids (s ++ [p]) c = if p.o.id ∈ ids ∧ p.c = c then p.n + 1 else endS ids s c := by
 unfold endS
 rw [List.foldl_append]
 rfl
theorem endS_le {ws : Wk} (ids : List Int) (c : Nat) : ∀ n, n ≤ total ws → endS ids ((allP ws).take n) c ≤ total ws
 | 0, _ => by simp [endS]
 | n + 1, h => by
  obtain ⟨p, hp⟩ := at_total (ws := ws) (n := n) (by omega)
  rw [take_snoc_get hp, endS_snoc]
  split
  ·obtain ⟨-, os, h1, h2, h3⟩ := allP_inv hp
   have := pre_lt h1 (List.getElem?_eq_some_iff.1 h2).1
   omega
  ·exact endS_le ids c n (by omega)
/-- .. for the path of an outlet. -/
noncomputable def endE (ws : Wk) (id : Int) (c : Nat) : Nat := endS (byIdS ws (allP ws) id) (allP ws) c
theorem endE_le (ws : Wk) (id : Int) (c : Nat) : endE ws id c ≤ total ws := by
 have := endS_le (ws := ws) (byIdS ws (allP ws) id) c (total ws) (Nat.le_refl _)
 rwa [List.take_of_length_le (by rw [allP_len]; exact Nat.le_refl _)] at this
def sgH (e : Nat → Nat) (c : Nat) : Int := min (e c : Int) 1
def sgO (e : Nat → Nat) (p : Pl) : Int := if (p.n : Int) = (e p.c : Int) - 1 then 1 else if (p.n : Int) < e p.c then -1 else 0
def sgR (e : Nat → Nat) (p : Pl) : Int := if (p.n : Int) < e p.c then -1 else 0
noncomputable def sigH (ws : Wk) (id : Int) : List Int := (headsN ws).map (sgH (endE ws id))
noncomputable def sigO (ws : Wk) (id : Int) : List Int := (allP ws).map (sgO (endE ws id))
noncomputable def sigR (ws : Wk) (id : Int) : List Int := (allP ws).map (sgR (endE ws id))

/-- The array of the ends, in block g. -/
def EndA (g : Nat) (e : Nat → Nat) (W : World) : Prop := ∀ c, c < 16 → W.cell? ⟨g, c, none⟩ = some (.int .i64 (e c)) ∧ W.frozen? ⟨g, c, none⟩ = false
theorem EndA.grown {g : Nat} {e : Nat → Nat} {W W' : World} {bs : List Nat} (h : EndA g e W) (hg : GrownL bs W W') (hn : g ∉ bs) : EndA g e W' := fun c hc => by
 obtain ⟨h1, h2⟩ := h c hc
 exact ⟨hg.cell h1 hn, (World.frozen?_of_block (hg.block _ (World.block_lt_of_cell? _ _ h1) hn)).trans h2⟩
theorem EndA.lt {g : Nat} {e : Nat → Nat} {W : World} (h : EndA g e W) : g < W.heap.size := World.block_lt_of_cell? _ _ (h 0 (by decide)).1
theorem EndA.set {g c : Nat} {e e' : Nat → Nat} {W : World} (h : EndA g e W) (hc : c < 16) {n : Int} (he : ∀ d, (e' d : Int) = if d = c then n else e d) : EndA g e' (W.setCell ⟨g, c, none⟩ (.int .i64 n)) := fun d hd => by
 obtain ⟨h1, h2⟩ := h d hd
 refine ⟨?_, (World.frozen?_setCell _ _ _ _).trans h2⟩
 rw [he d]
 by_cases ed : d = c
 ·subst ed
  rw [if_pos rfl]
  exact World.cell?_setCell_same' _ _ _ (by rw [h1]; rfl)
 ·rw [if_neg ed, World.cell?_setCell_other _ ⟨g, c, none⟩ ⟨g, d, none⟩ _ (by simp <;> omega)]
  exact h1
/-- What signsOf keeps besides its lists. -/
structure SgS (w : World) (v : Value) (e : Nat → Nat) (W : World) : Prop where
 wk : W.cell? ⟨w.heap.size, 0, none⟩ = some v
 r0 : W.cell? ⟨w.heap.size + 1, 0, none⟩ = some (.slice none 0 0)
 r1 : W.cell? ⟨w.heap.size + 1, 1, none⟩ = some (.slice none 0 0)
 r2 : W.cell? ⟨w.heap.size + 1, 2, none⟩ = some (.slice none 0 0)
 z0 : W.frozen? ⟨w.heap.size + 1, 0, none⟩ = false
 z1 : W.frozen? ⟨w.heap.size + 1, 1, none⟩ = false
 z2 : W.frozen? ⟨w.heap.size + 1, 2, none⟩ = false
 en : EndA (w.heap.size + 1 + 1) e W
 bel : Below w.heap.size w W
section
variable {w W W' : World} {v : Value} {e e' : Nat → Nat}
theorem SgS.siz (h : SgS w v e W) : w.heap.size + 3 ≤ W.heap.size := h.en.lt
theorem SgS.lift {bs : List Nat} (h : SgS w v e W) (hg : GrownL bs W W') (h0 : w.heap.size ∉ bs) (h1 : w.heap.size + 1 ∉ bs) (he : EndA (w.heap.size + 1 + 1) e' W') (hb : ∀ k ∈ bs, w.heap.size ≤ k) : SgS w v e' W' := by
 have fz : ∀ i, W.frozen? ⟨w.heap.size + 1, i, none⟩ = false → W'.frozen? ⟨w.heap.size + 1, i, none⟩ = false := fun i hi => (World.frozen?_of_block (a := ⟨w.heap.size + 1, i, none⟩) (hg.block (w.heap.size + 1) (World.block_lt_of_cell? _ _ h.r0) h1)).trans hi
 exact ⟨hg.cell h.wk h0, hg.cell h.r0 h1, hg.cell h.r1 h1, hg.cell h.r2 h1, fz 0 h.z0, fz 1 h.z1, fz 2 h.z2, he, h.bel.trans (hg.below hb h.bel.size)⟩
theorem SgS.grown {bs : List Nat} (h : SgS w v e W) (hg : GrownL bs W W') (hn : ∀ k ∈ bs, w.heap.size + 3 ≤ k) : SgS w v e W' :=
 h.lift hg (fun hm => by have := hn _ hm; omega) (fun hm => by have := hn _ hm; omega) (h.en.grown hg (fun hm => by have := hn _ hm; omega)) (fun k hk => by have := hn k hk; omega)
theorem SgS.below (h : SgS w v e W) (hb : Below W.heap.size W W') : SgS w v e W' := h.grown (GrownL.of_below (bs := []) hb) (by simp)
theorem SgS.set (h : SgS w v e W) {c : Nat} (hc : c < 16) {n : Int} (he : ∀ d, (e' d : Int) = if d = c then n else e d) : SgS w v e' (W.setCell ⟨w.heap.size + 1 + 1, c, none⟩ (.int .i64 n)) :=
 h.lift (GrownL.set (bs := [w.heap.size + 2]) _ _ _ (by simp)) (by simp) (by simp) (h.en.set hc he) (by simp)
end
section
variable {ops : Array Oper} {o : Oper} {a : Act} {w : World} {K : Act → World → Prop} {Q : Exit → Act → World → Prop} {E : Prop}
/-- One number is appended to a list of one's own, as a step of a region that draws; it says where the list lies then. -/
theorem step_appA (hg : o.guard = none) (s x : Operand) (hop : o.op = Op.call { callee := Callee.builtin Builtin.append, args := #[s, x], argTypes := #[25, 25] })
  (base : Nat) (v : Value) (xs : List Int) (hs : a.eval s = v) (hown : OwnG encI 1 3 base v xs w) (hxs : xs.length ≤ 1000000) (b : Nat) (y : Int) (hx : a.eval x = .slice (some ⟨b, 0, none⟩) 1 1) (hc : w.cell? ⟨b, 0, none⟩ = some (.int .i64 y)) (hb : base ≤ w.heap.size)
  (hK : ∀ v' w', OwnG encI 1 3 base v' (xs ++ [y]) w' → GrownL v.ownBlock.toList w w' → (v'.ownBlock = v.ownBlock ∨ ∃ n, v'.ownBlock = some n ∧ w.heap.size ≤ n) → K (a.put o.dst v') w') :
  if Region.wanted o (yielded ops a.tmps) = true then Oper.wp Try.prog o a w K Q else E := by
 obtain ⟨i0, hz0, hj0, hj1, hj2⟩ := info_parts infoInt
 have hw : Region.wanted o (yielded ops a.tmps) = true := by simp [Region.wanted, hg]
 rw [if_pos hw]
 obtain ⟨v', w', hrun, r1, r2, _, r5⟩ := run_append_own_at (P := Try.prog) w base 25 o.type 3 i0 (.int .i64 0) 1 8 Try.underlying25 hz0 hj0 hj1 hj2 rfl (by decide) v xs.length (xs.flatMap encI) hown ⟨b, 0, none⟩ 1 1 [.int .i64 y] rfl (fun j u hj => by
  match j, hj with
  | 0, hj => simp at hj; subst hj; simpa [Addr.add] using hc) (fun u hu => by simp at hu; subst hu; rfl) (by unfold maxLen; omega) (by omega) hb
 unfold Oper.wp
 simp [execOp, hop, resolve, invoke, builtin, hs, hx, hrun, Result.andThen]
 refine hK v' w' ?_ (GrownL.of_row r2) ?_
 ·unfold OwnG
  rw [List.flatMap_append, List.length_append]
  exact r1
 ·rcases r5 with h | h
  ·exact .inl h
  ·exact .inr ⟨_, h, Nat.le_refl _⟩
end
/-- New blocks don't count. -/
theorem GrownL.newer {b : Nat} {l : List Nat} {w0 w1 w2 : World} (h : GrownL [b] w0 w1) (k : GrownL (b :: l) w1 w2) (hl : ∀ x ∈ l, w0.heap.size ≤ x) : GrownL [b] w0 w2 := by
 have t := (h.mono (bs' := b :: l) (by simp)).trans k
 exact ⟨t.os, t.tape, t.output, t.size, fun i hi hn => t.block i hi (fun hm => by
  rcases List.mem_cons.1 hm with e | hm
  ·exact hn (by simp [e])
  ·have := hl i hm; omega)⟩
/-- Three cells of a block are written. -/
theorem set3 {W : World} {b : Nat} {a0 a1 a2 : Value} (h0 : W.cell? ⟨b, 0, none⟩ = some a0) (h1 : W.cell? ⟨b, 1, none⟩ = some a1) (h2 : W.cell? ⟨b, 2, none⟩ = some a2) (v0 v1 v2 : Value) :
  (((W.setCell ⟨b, 0, none⟩ v0).setCell ⟨b, 1, none⟩ v1).setCell ⟨b, 2, none⟩ v2).cell? ⟨b, 0, none⟩ = some v0 ∧ (((W.setCell ⟨b, 0, none⟩ v0).setCell ⟨b, 1, none⟩ v1).setCell ⟨b, 2, none⟩ v2).cell? ⟨b, 1, none⟩ = some v1 ∧ (((W.setCell ⟨b, 0, none⟩ v0).setCell ⟨b, 1, none⟩ v1).setCell ⟨b, 2, none⟩ v2).cell? ⟨b, 2, none⟩ = some v2 ∧ GrownL [b] W (((W.setCell ⟨b, 0, none⟩ v0).setCell ⟨b, 1, none⟩ v1).setCell ⟨b, 2, none⟩ v2) := by
 have n : ∀ i j, i ≠ j → ∀ (X : World) (v : Value), (X.setCell ⟨b, i, none⟩ v).cell? ⟨b, j, none⟩ = X.cell? ⟨b, j, none⟩ := fun i j hij X v => World.cell?_setCell_other _ ⟨b, i, none⟩ ⟨b, j, none⟩ _ (by simp <;> omega)
 have s : ∀ i (X : World) (v : Value), (X.cell? ⟨b, i, none⟩).isSome = true → (X.setCell ⟨b, i, none⟩ v).cell? ⟨b, i, none⟩ = some v := fun i X v h => World.cell?_setCell_same' _ _ _ h
 refine ⟨?_, ?_, ?_, ((GrownL.set _ _ _ (by simp)).trans (GrownL.set _ _ _ (by simp))).trans (GrownL.set _ _ _ (by simp))⟩
 ·rw [n 2 0 (by decide), n 1 0 (by decide), s 0 _ _ (by rw [h0]; rfl)]
 ·rw [n 2 1 (by decide), s 1 _ _ (by rw [n 0 1 (by decide), h1]; rfl)]
 ·rw [s 2 _ _ (by rw [n 1 2 (by decide), n 0 2 (by decide), h2]; rfl)]
/-- Three lists of one's own that a variable holds. -/
structure G3 (g base : Nat) (u1 u2 u3 : Value) (l1 l2 l3 : List Int) (W : World) : Prop where
 c1 : W.cell? ⟨g, 0, none⟩ = some u1
 c2 : W.cell? ⟨g, 1, none⟩ = some u2
 c3 : W.cell? ⟨g, 2, none⟩ = some u3
 f1 : W.frozen? ⟨g, 0, none⟩ = false
 f2 : W.frozen? ⟨g, 1, none⟩ = false
 f3 : W.frozen? ⟨g, 2, none⟩ = false
 o1 : OwnG encI 1 3 base u1 l1 W
 o2 : OwnG encI 1 3 base u2 l2 W
 o3 : OwnG encI 1 3 base u3 l3 W
 d12 : ∀ b, u1.ownBlock = some b → u2.ownBlock ≠ some b
 d13 : ∀ b, u1.ownBlock = some b → u3.ownBlock ≠ some b
 d23 : ∀ b, u2.ownBlock = some b → u3.ownBlock ≠ some b
 gb : g < base
section
variable {g base : Nat} {u1 u2 u3 v' : Value} {l1 l2 l3 : List Int} {W W' W4 : World}
theorem G3.lt (h : G3 g base u1 u2 u3 l1 l2 l3 W) : g < W.heap.size := World.block_lt_of_cell? _ _ h.c1
theorem G3.grown {bs : List Nat} (h : G3 g base u1 u2 u3 l1 l2 l3 W) (hg : GrownL bs W W') (hn : g ∉ bs) (hr : ∀ k ∈ bs, k < base ∨ W.heap.size ≤ k) : G3 g base u1 u2 u3 l1 l2 l3 W' := by
 have fz : ∀ i, W.frozen? ⟨g, i, none⟩ = false → W'.frozen? ⟨g, i, none⟩ = false := fun i hi => (World.frozen?_of_block (hg.block _ h.lt hn)).trans hi
 have ow : ∀ u l, OwnG encI 1 3 base u l W → OwnG encI 1 3 base u l W' := fun u l ho => ho.grown hg (fun b hb hm => by have := ho.lt b hb; have := hr b hm; omega)
 exact ⟨hg.cell h.c1 hn, hg.cell h.c2 hn, hg.cell h.c3 hn, fz 0 h.f1, fz 1 h.f2, fz 2 h.f3, ow _ _ h.o1, ow _ _ h.o2, ow _ _ h.o3, h.d12, h.d13, h.d23, h.gb⟩
theorem G3.grown_ {bs : List Nat} (h : G3 g base u1 u2 u3 l1 l2 l3 W) (hg : GrownL bs W W') (hn : g ∉ bs) (r1 : ∀ b, u1.ownBlock = some b → b ∉ bs) (r2 : ∀ b, u2.ownBlock = some b → b ∉ bs) (r3 : ∀ b, u3.ownBlock = some b → b ∉ bs) : G3 g base u1 u2 u3 l1 l2 l3 W' := by
 have fz : ∀ i, W.frozen? ⟨g, i, none⟩ = false → W'.frozen? ⟨g, i, none⟩ = false := fun i hi => (World.frozen?_of_block (hg.block _ h.lt hn)).trans hi
 exact ⟨hg.cell h.c1 hn, hg.cell h.c2 hn, hg.cell h.c3 hn, fz 0 h.f1, fz 1 h.f2, fz 2 h.f3, h.o1.grown hg r1, h.o2.grown hg r2, h.o3.grown hg r3, h.d12, h.d13, h.d23, h.gb⟩
theorem G3.app1 (h : G3 g base u1 u2 u3 l1 l2 l3 W) {x : Int} (hg : GrownL u1.ownBlock.toList W W4) (ho : OwnG encI 1 3 base v' (l1 ++ [x]) W4) (ha : v'.ownBlock = u1.ownBlock ∨ ∃ n, v'.ownBlock = some n ∧ W.heap.size ≤ n) : G3 g base v' u2 u3 (l1 ++ [x]) l2 l3 (W4.setCell ⟨g, 0, none⟩ v') := by
 have hn : g ∉ u1.ownBlock.toList := fun hm => by have := (h.o1.lt g (by simpa using hm)).1; have := h.gb; omega
 have gs : GrownL [g] W4 (W4.setCell ⟨g, 0, none⟩ v') := GrownL.set _ _ _ (by simp)
 have fz : ∀ i, W.frozen? ⟨g, i, none⟩ = false → (W4.setCell ⟨g, 0, none⟩ v').frozen? ⟨g, i, none⟩ = false := fun i hi => (World.frozen?_setCell _ _ _ _).trans ((World.frozen?_of_block (hg.block _ h.lt hn)).trans hi)
 have oth : ∀ i u, i ≠ 0 → W.cell? ⟨g, i, none⟩ = some u → (W4.setCell ⟨g, 0, none⟩ v').cell? ⟨g, i, none⟩ = some u := fun i u hi hu => (World.cell?_setCell_other _ ⟨g, 0, none⟩ ⟨g, i, none⟩ _ (by simp <;> omega)).trans (hg.cell hu hn)
 have ow : ∀ u l, (∀ b, u1.ownBlock = some b → u.ownBlock ≠ some b) → OwnG encI 1 3 base u l W → OwnG encI 1 3 base u l (W4.setCell ⟨g, 0, none⟩ v') := fun u l hd ho => (ho.grown hg (fun b hb hm => hd b (by simpa using hm) hb)).grown gs (fun b hb hm => by have := (ho.lt b hb).1; have := h.gb; simp at hm; omega)
 have dd : ∀ u l, OwnG encI 1 3 base u l W → (∀ b, u1.ownBlock = some b → u.ownBlock ≠ some b) → ∀ b, v'.ownBlock = some b → u.ownBlock ≠ some b := fun u l hou hd b hb hb' => by
  rcases ha with e | ⟨n, e, hn'⟩
  ·exact hd b (e ▸ hb) hb'
  ·rw [e] at hb; cases hb; have := (hou.lt _ hb').2; omega
 exact ⟨World.cell?_setCell_same' _ _ _ (by rw [hg.cell h.c1 hn]; rfl), oth 1 _ (by decide) h.c2, oth 2 _ (by decide) h.c3, fz 0 h.f1, fz 1 h.f2, fz 2 h.f3,
  ho.grown gs (fun b hb hm => by have := (ho.lt b hb).1; have := h.gb; simp at hm; omega), ow _ _ h.d12 h.o2, ow _ _ h.d13 h.o3, dd _ _ h.o2 h.d12, dd _ _ h.o3 h.d13, h.d23, h.gb⟩
theorem G3.app2 (h : G3 g base u1 u2 u3 l1 l2 l3 W) {x : Int} (hg : GrownL u2.ownBlock.toList W W4) (ho : OwnG encI 1 3 base v' (l2 ++ [x]) W4) (ha : v'.ownBlock = u2.ownBlock ∨ ∃ n, v'.ownBlock = some n ∧ W.heap.size ≤ n) : G3 g base u1 v' u3 l1 (l2 ++ [x]) l3 (W4.setCell ⟨g, 1, none⟩ v') := by
 have hn : g ∉ u2.ownBlock.toList := fun hm => by have := (h.o2.lt g (by simpa using hm)).1; have := h.gb; omega
 have gs : GrownL [g] W4 (W4.setCell ⟨g, 1, none⟩ v') := GrownL.set _ _ _ (by simp)
 have fz : ∀ i, W.frozen? ⟨g, i, none⟩ = false → (W4.setCell ⟨g, 1, none⟩ v').frozen? ⟨g, i, none⟩ = false := fun i hi => (World.frozen?_setCell _ _ _ _).trans ((World.frozen?_of_block (hg.block _ h.lt hn)).trans hi)
 have oth : ∀ i u, i ≠ 1 → W.cell? ⟨g, i, none⟩ = some u → (W4.setCell ⟨g, 1, none⟩ v').cell? ⟨g, i, none⟩ = some u := fun i u hi hu => (World.cell?_setCell_other _ ⟨g, 1, none⟩ ⟨g, i, none⟩ _ (by simp <;> omega)).trans (hg.cell hu hn)
 have ow : ∀ u l, (∀ b, u2.ownBlock = some b → u.ownBlock ≠ some b) → OwnG encI 1 3 base u l W → OwnG encI 1 3 base u l (W4.setCell ⟨g, 1, none⟩ v') := fun u l hd ho => (ho.grown hg (fun b hb hm => hd b (by simpa using hm) hb)).grown gs (fun b hb hm => by have := (ho.lt b hb).1; have := h.gb; simp at hm; omega)
 have dd : ∀ u l, OwnG encI 1 3 base u l W → (∀ b, u2.ownBlock = some b → u.ownBlock ≠ some b) → ∀ b, v'.ownBlock = some b → u.ownBlock ≠ some b := fun u l hou hd b hb hb' => by
  rcases ha with e | ⟨n, e, hn'⟩
  ·exact hd b (e ▸ hb) hb'
  ·rw [e] at hb; cases hb; have := (hou.lt _ hb').2; omega
 have d21 : ∀ b, u2.ownBlock = some b → u1.ownBlock ≠ some b := fun b hb hb' => h.d12 b hb' hb
 exact ⟨oth 0 _ (by decide) h.c1, World.cell?_setCell_same' _ _ _ (by rw [hg.cell h.c2 hn]; rfl), oth 2 _ (by decide) h.c3, fz 0 h.f1, fz 1 h.f2, fz 2 h.f3,
  ow _ _ d21 h.o1, ho.grown gs (fun b hb hm => by have := (ho.lt b hb).1; have := h.gb; simp at hm; omega), ow _ _ h.d23 h.o3, fun b hb hb' => dd _ _ h.o1 d21 b hb' hb, h.d13, dd _ _ h.o3 h.d23, h.gb⟩
theorem G3.app3 (h : G3 g base u1 u2 u3 l1 l2 l3 W) {x : Int} (hg : GrownL u3.ownBlock.toList W W4) (ho : OwnG encI 1 3 base v' (l3 ++ [x]) W4) (ha : v'.ownBlock = u3.ownBlock ∨ ∃ n, v'.ownBlock = some n ∧ W.heap.size ≤ n) : G3 g base u1 u2 v' l1 l2 (l3 ++ [x]) (W4.setCell ⟨g, 2, none⟩ v') := by
 have hn : g ∉ u3.ownBlock.toList := fun hm => by have := (h.o3.lt g (by simpa using hm)).1; have := h.gb; omega
 have gs : GrownL [g] W4 (W4.setCell ⟨g, 2, none⟩ v') := GrownL.set _ _ _ (by simp)
 have fz : ∀ i, W.frozen? ⟨g, i, none⟩ = false → (W4.setCell ⟨g, 2, none⟩ v').frozen? ⟨g, i, none⟩ = false := fun i hi => (World.frozen?_setCell _ _ _ _).trans ((World.frozen?_of_block (hg.block _ h.lt hn)).trans hi)
 have oth : ∀ i u, i ≠ 2 → W.cell? ⟨g, i, none⟩ = some u → (W4.setCell ⟨g, 2, none⟩ v').cell? ⟨g, i, none⟩ = some u := fun i u hi hu => (World.cell?_setCell_other _ ⟨g, 2, none⟩ ⟨g, i, none⟩ _ (by simp <;> omega)).trans (hg.cell hu hn)
 have ow : ∀ u l, (∀ b, u3.ownBlock = some b → u.ownBlock ≠ some b) → OwnG encI 1 3 base u l W → OwnG encI 1 3 base u l (W4.setCell ⟨g, 2, none⟩ v') := fun u l hd ho => (ho.grown hg (fun b hb hm => hd b (by simpa using hm) hb)).grown gs (fun b hb hm => by have := (ho.lt b hb).1; have := h.gb; simp at hm; omega)
 have dd : ∀ u l, OwnG encI 1 3 base u l W → (∀ b, u3.ownBlock = some b → u.ownBlock ≠ some b) → ∀ b, v'.ownBlock = some b → u.ownBlock ≠ some b := fun u l hou hd b hb hb' => by
  rcases ha with e | ⟨n, e, hn'⟩
  ·exact hd b (e ▸ hb) hb'
  ·rw [e] at hb; cases hb; have := (hou.lt _ hb').2; omega
 have d31 : ∀ b, u3.ownBlock = some b → u1.ownBlock ≠ some b := fun b hb hb' => h.d13 b hb' hb
 have d32 : ∀ b, u3.ownBlock = some b → u2.ownBlock ≠ some b := fun b hb hb' => h.d23 b hb' hb
 exact ⟨oth 0 _ (by decide) h.c1, oth 1 _ (by decide) h.c2, World.cell?_setCell_same' _ _ _ (by rw [hg.cell h.c3 hn]; rfl), fz 0 h.f1, fz 1 h.f2, fz 2 h.f3,
  ow _ _ d31 h.o1, ow _ _ d32 h.o2, ho.grown gs (fun b hb hm => by have := (ho.lt b hb).1; have := h.gb; simp at hm; omega), h.d12, fun b hb hb' => dd _ _ h.o1 d31 b hb' hb, fun b hb hb' => dd _ _ h.o2 d32 b hb' hb, h.gb⟩
end
end Go.Proofs.Ytkoacclbempmdaa
