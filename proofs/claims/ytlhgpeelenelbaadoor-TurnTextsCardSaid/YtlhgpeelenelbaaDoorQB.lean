/- What Parse keeps between two parts; an append to a row of one's own, as a step of a region. -/
import Derived.Test.YtlhgpeelenelbaaDoorQA
import Derived.Test.YtlhgpeelenelbaaDoorHI
import Derived.Test.YtlhgpeelenelbaaDoorE5
namespace Go.Proofs.YtlhgpeelenelbaaDoor
open Go.RowKit

theorem step_append_own {P : Program} {ops : Array Oper} {o : Oper} {a : Act} {w : World} {K : Act → World → Prop} {Q : Exit → Act → World → Prop} {E : Prop}
    (hg : o.guard = none) (s x : Operand) (t : TypeId) (hop : o.op = Op.call { callee := Callee.builtin Builtin.append, args := #[s, x], argTypes := #[t, t] })
    (base : Nat) (e : TypeId) (i : TypeInfo) (z : Value) (size bytes : Nat) (h1 : P.underlying t = some (.slice e)) (h2 : P.info? e = some i) (h3 : i.zero = some z) (h4 : i.size = size) (h5 : i.bytes = bytes) (h6 : z.cells.size = size) (h7 : 0 < size)
    (v : Value) (n : Nat) (olds : List Value) (hs : a.eval s = v) (hown : w.ownsRow base e size v n olds)
    (ad : Addr) (m c : Nat) (news : List Value) (hx : a.eval x = .slice (some ad) m c) (hn : news.length = m * size) (hc : ∀ j u, news[j]? = some u → w.cell? (ad.add j) = some u) (h1c : ∀ u ∈ news, u.oneCell' = true)
    (b1 : n + m ≤ maxLen) (b2 : (n + m) * bytes ≤ 140737488355328) (hb : base ≤ w.heap.size)
    (hK : ∀ v' w', w'.ownsRow base e size v' (n + m) (olds ++ news) → w.grownBy w' v.ownBlock → K (a.put o.dst v') w') :
    if Region.wanted o (yielded ops a.tmps) = true then Oper.wp P o a w K Q else E := by
  have hw : Region.wanted o (yielded ops a.tmps) = true := by simp [Region.wanted, hg]
  rw [if_pos hw]
  obtain ⟨v', w', hrun, r1, r2, _⟩ := run_append_own (P := P) w base t o.type e i z size bytes h1 h2 h3 h4 h5 h6 h7 v n olds hown ad m c news hn hc h1c b1 b2 hb
  unfold Oper.wp
  simp [execOp, hop, resolve, invoke, builtin, hs, hx, hrun, Result.andThen]
  exact hK v' w' r1 r2

def rowA (l : List T3) : List Value := l.flatMap fun x => [.int .i64 x.1, .int .i64 x.2.1, .int .i64 x.2.2]
theorem rowA_len (l : List T3) : (rowA l).length = l.length * 3 := by
  induction l with
  | nil => rfl
  | cons x l ih =>
    have : rowA (x :: l) = [.int .i64 x.1, .int .i64 x.2.1, .int .i64 x.2.2] ++ rowA l := rfl
    rw [this, List.length_append, ih]; simp; omega
theorem rowA_snoc (l : List T3) (x : T3) : rowA (l ++ [x]) = rowA l ++ [.int .i64 x.1, .int .i64 x.2.1, .int .i64 x.2.2] := by simp [rowA, List.flatMap_append]
theorem rowA_at : ∀ (l : List T3) (k : Nat) (p f m : Int), l[k]? = some (p, f, m) → (rowA l)[k * 3]? = some (.int .i64 p) ∧ (rowA l)[k * 3 + 1]? = some (.int .i64 f) ∧ (rowA l)[k * 3 + 2]? = some (.int .i64 m)
  | [], k, p, f, m, h => by cases h
  | x :: l, 0, p, f, m, h => by simp at h; subst h; exact ⟨rfl, rfl, rfl⟩
  | x :: l, k + 1, p, f, m, h => by
    have ih := rowA_at l k p f m (by simpa using h)
    have e : rowA (x :: l) = .int .i64 x.1 :: .int .i64 x.2.1 :: .int .i64 x.2.2 :: rowA l := rfl
    rw [e, show (k + 1) * 3 = k * 3 + 3 by omega]
    exact ih
theorem rt_of_row {W : World} {base : Nat} {v : Value} {l : List T3} (h : W.ownsRow base 27 3 v l.length (rowA l)) (hl : l.length ≤ 1000000000000) : RT W.heap.size v l W := by
  rcases h.2 with ⟨rfl, h0⟩ | ⟨g, cap, cur, rfl, hb, hgb, r⟩
  · exact ⟨none, 0, by rw [h0], hl, fun hp => by omega⟩
  · refine ⟨_, cap, rfl, hl, fun hp => ⟨g, 0, rfl, (Array.getElem?_eq_some_iff.1 hgb).1, fun k p f m hk => ?_⟩⟩
    have hkl := (List.getElem?_eq_some_iff.1 hk).1
    obtain ⟨c1, c2, c3⟩ := rowA_at l k p f m hk
    rw [Nat.zero_add]
    exact ⟨(World.ownsRow.cellAt h (k * 3) (by omega)).trans c1, (World.ownsRow.cellAt h (k * 3 + 1) (by omega)).trans c2, (World.ownsRow.cellAt h (k * 3 + 2) (by omega)).trans c3⟩
theorem own_form {W : World} {base size n : Nat} {e : TypeId} {v : Value} {xs : List Value} (h : W.ownsRow base e size v n xs) : ∃ A c, v = .slice A n c := by
  rcases h.2 with ⟨rfl, h0⟩ | ⟨g, cap, cur, rfl, _⟩
  · exact ⟨none, 0, by rw [h0]⟩
  · exact ⟨_, _, rfl⟩
/-- A row of turns and a row of spans lie in two blocks. -/
theorem own_ne {W : World} {b b' n m : Nat} {v v' : Value} {xs ys : List Value} {g : Nat} (h : W.ownsRow b 27 3 v n xs) (k : W.ownsRow b' 49 2 v' m ys) (e : v.ownBlock = some g) (e' : v'.ownBlock = some g) : False := by
  rcases h.2 with ⟨rfl, _⟩ | ⟨g0, cap, cur, rfl, _, hg0, _⟩
  · cases e
  · rcases k.2 with ⟨rfl, _⟩ | ⟨g1, cap', cur', rfl, _, hg1, _⟩
    · cases e'
    · obtain rfl : g0 = g := Option.some.inj e
      obtain rfl : g1 = g0 := Option.some.inj e'
      have := hg0.symm.trans hg1
      simp at this
theorem GrownL.of_row {w w' : World} {v : Value} (h : w.grownBy w' v.ownBlock) : GrownL v.ownBlock.toList w w' :=
  ⟨h.os, h.tape, h.output, h.size, fun k hk hn => h.block k hk (fun e => hn (by simp [← e]))⟩

theorem rsN (w : World) (B : Nat) : RS B (.slice none 0 0) [] w := ⟨none, 0, rfl, by simp, fun h => by simp at h⟩
theorem rtN (w : World) (B : Nat) : RT B (.slice none 0 0) [] w := ⟨none, 0, rfl, by simp, fun h => by simp at h⟩

/-- Between two parts: the text, the result, the reader, the set so far. -/
structure PL (w : World) (s : ByteArray) (v0 v1 : Value) (ts : List T3) (ss : List S2) (st : Nat × Bool) (W : World) : Prop where
  rd : RdAt (w.heap.size + 1 + 1) w.heap.size (w.heap.size + 1 + 1 + 1) s st W
  res : W.heap[w.heap.size + 1]? = some (.cells #[.slice none 0 0, .slice none 0 0] 25 (0, 0))
  set : W.heap[w.heap.size + 1 + 1 + 1 + 1]? = some (.cells #[v0, v1] 25 (0, 0))
  ot : W.ownsRow (w.heap.size + 5) 27 3 v0 ts.length (rowA ts)
  os : W.ownsRow (w.heap.size + 5) 49 2 v1 ss.length (cells2 ss)
  bel : Below w.heap.size w W
  siz : w.heap.size + 5 ≤ W.heap.size
section
variable {w W w4 w5 : World} {s : ByteArray} {v0 v1 v' : Value} {ts : List T3} {ss : List S2} {st st' : Nat × Bool} {o : Obj}
theorem PL.drewN (h : PL w s v0 v1 ts ss st W) (n : Nat) : PL w s v0 v1 ts ss st (W.drewN n) := ⟨h.rd, h.res, h.set, h.ot, h.os, ⟨h.bel.os, h.bel.tape, h.bel.output, h.bel.size, h.bel.block⟩, h.siz⟩
theorem PL.drew (h : PL w s v0 v1 ts ss st W) : PL w s v0 v1 ts ss st W.drew := ⟨h.rd, h.res, h.set, h.ot, h.os, ⟨h.bel.os, h.bel.tape, h.bel.output, h.bel.size, h.bel.block⟩, h.siz⟩
theorem PL.rm (h : PL w s v0 v1 ts ss st W) (h1 : ts.length ≤ 1000000) (h2 : ss.length ≤ 1000000) : RM W.heap.size (.agg #[v0, v1]) ts ss W := by
  obtain ⟨A, c, rfl⟩ := own_form h.ot
  obtain ⟨A', c', rfl⟩ := own_form h.os
  exact ⟨_, _, _, _, _, _, rfl, rt_of_row h.ot (by omega), rs_of_row h.os (by omega)⟩
theorem PL.c0 (h : PL w s v0 v1 ts ss st W) : W.cell? ⟨w.heap.size + 1 + 1 + 1 + 1, 0, none⟩ = some v0 := by simp [World.cell?, h.set]
theorem PL.c1 (h : PL w s v0 v1 ts ss st W) : W.cell? ⟨w.heap.size + 1 + 1 + 1 + 1, 1, none⟩ = some v1 := by simp [World.cell?, h.set]
theorem PL.f (h : PL w s v0 v1 ts ss st W) (i : Nat) : W.frozen? ⟨w.heap.size + 1 + 1 + 1 + 1, i, none⟩ = false := by simp [World.frozen?, h.set]
theorem PL.r0 (h : PL w s v0 v1 ts ss st W) : W.cell? ⟨w.heap.size + 1, 0, none⟩ = some (.slice none 0 0) ∧ W.cell? ⟨w.heap.size + 1, 1, none⟩ = some (.slice none 0 0) ∧ W.frozen? ⟨w.heap.size + 1, 0, none⟩ = false ∧ W.frozen? ⟨w.heap.size + 1, 1, none⟩ = false := by simp [World.cell?, World.frozen?, h.res]
theorem PL.call (h : PL w s v0 v1 ts ss st W) (hr : RdAt (w.heap.size + 1 + 1) w.heap.size (w.heap.size + 1 + 1 + 1) s st' w4) (hg : GrownL [w.heap.size + 1 + 1, w.heap.size + 1 + 1 + 1] W w4) : PL w s v0 v1 ts ss st' w4 := by
  have hs := h.siz
  have nb : ∀ k, k = w.heap.size + 1 ∨ k = w.heap.size + 1 + 1 + 1 + 1 ∨ w.heap.size + 5 ≤ k → k ∉ [w.heap.size + 1 + 1, w.heap.size + 1 + 1 + 1] := fun k hk hm => by simp at hm; omega
  exact ⟨hr, (hg.block _ (by omega) (nb _ (.inl rfl))).trans h.res, (hg.block _ (by omega) (nb _ (.inr (.inl rfl)))).trans h.set, ownsRow_grownL h.ot hg (fun g e => nb g (.inr (.inr (World.ownsRow.lt h.ot g e).1))),
    ownsRow_grownL h.os hg (fun g e => nb g (.inr (.inr (World.ownsRow.lt h.os g e).1))), h.bel.trans (hg.below (by intro b hb; simp at hb; omega) (by omega)), by have := hg.size; omega⟩
theorem PL.alloc (h : PL w s v0 v1 ts ss st W) (o : Obj) : PL w s v0 v1 ts ss st (W.alloc o) := by
  have hs := h.siz
  have hg : GrownL [w.heap.size + 1 + 1, w.heap.size + 1 + 1 + 1] W (W.alloc o) := GrownL.of_below ((Below.refl _ _).alloc (Nat.le_refl _) o)
  exact h.call (h.rd.grown (bs := []) (GrownL.of_below ((Below.refl _ _).alloc (Nat.le_refl _) o)) (by simp) (by simp) (by simp)) hg
theorem PL.turn (h : PL w s v0 v1 ts ss st W) {x : T3} (hgrow : W.grownBy w5 v0.ownBlock)
    (hown : w5.ownsRow (w.heap.size + 5) 27 3 v' (ts.length + 1) (rowA ts ++ [.int .i64 x.1, .int .i64 x.2.1, .int .i64 x.2.2])) :
    PL w s v' v1 (ts ++ [x]) ss st (w5.setCell ⟨w.heap.size + 1 + 1 + 1 + 1, 0, none⟩ v') := by
  have hs := h.siz
  have h5 : GrownL v0.ownBlock.toList W w5 := GrownL.of_row hgrow
  have hlt : ∀ g ∈ v0.ownBlock.toList, w.heap.size + 5 ≤ g := fun g hg => (World.ownsRow.lt h.ot g (by simpa using hg)).1
  have hS : GrownL [w.heap.size + 1 + 1 + 1 + 1] w5 (w5.setCell ⟨w.heap.size + 1 + 1 + 1 + 1, 0, none⟩ v') := GrownL.set _ _ _ (by simp)
  have nb : ∀ k, k < w.heap.size + 5 → k ∉ v0.ownBlock.toList := fun k hk hm => by have := hlt k hm; omega
  have nS : ∀ k, k ≠ w.heap.size + 1 + 1 + 1 + 1 → k ∉ [w.heap.size + 1 + 1 + 1 + 1] := fun k hk hm => by simp at hm; omega
  have hz5 := h5.size
  refine ⟨?_, ?_, ?_, ?_, ?_, ?_, ?_⟩
  · exact (h.rd.grown h5 (nb _ (by omega)) (nb _ (by omega)) (nb _ (by omega))).grown hS (nS _ (by omega)) (nS _ (by omega)) (nS _ (by omega))
  · exact (hS.block _ (by omega) (nS _ (by omega))).trans ((h5.block _ (by omega) (nb _ (by omega))).trans h.res)
  · exact set2_0 ((h5.block _ (by omega) (nb _ (by omega))).trans h.set)
  · have := ownsRow_grownL hown hS (fun g e => nS g (by have := (World.ownsRow.lt hown g e).1; omega))
    rw [rowA_snoc, List.length_append]
    exact this
  · exact ownsRow_grownL (ownsRow_grownL h.os h5 (fun g e hm => own_ne h.ot h.os (by simpa using hm) e)) hS (fun g e => nS g (by have := (World.ownsRow.lt h.os g e).1; omega))
  · exact (h.bel.trans (h5.below (fun b hb => by have := hlt b hb; omega) (by omega))).setCell (p := ⟨w.heap.size + 1 + 1 + 1 + 1, 0, none⟩) (by show w.heap.size ≤ w.heap.size + 4; omega) _
  · have := hS.size; omega
theorem PL.span (h : PL w s v0 v1 ts ss st W) {x : S2} (hgrow : W.grownBy w5 v1.ownBlock)
    (hown : w5.ownsRow (w.heap.size + 5) 49 2 v' (ss.length + 1) (cells2 ss ++ [.int .i64 x.1, .int .i64 x.2])) :
    PL w s v0 v' ts (ss ++ [x]) st (w5.setCell ⟨w.heap.size + 1 + 1 + 1 + 1, 1, none⟩ v') := by
  have hs := h.siz
  have h5 : GrownL v1.ownBlock.toList W w5 := GrownL.of_row hgrow
  have hlt : ∀ g ∈ v1.ownBlock.toList, w.heap.size + 5 ≤ g := fun g hg => (World.ownsRow.lt h.os g (by simpa using hg)).1
  have hS : GrownL [w.heap.size + 1 + 1 + 1 + 1] w5 (w5.setCell ⟨w.heap.size + 1 + 1 + 1 + 1, 1, none⟩ v') := GrownL.set _ _ _ (by simp)
  have nb : ∀ k, k < w.heap.size + 5 → k ∉ v1.ownBlock.toList := fun k hk hm => by have := hlt k hm; omega
  have nS : ∀ k, k ≠ w.heap.size + 1 + 1 + 1 + 1 → k ∉ [w.heap.size + 1 + 1 + 1 + 1] := fun k hk hm => by simp at hm; omega
  have hz5 := h5.size
  refine ⟨?_, ?_, ?_, ?_, ?_, ?_, ?_⟩
  · exact (h.rd.grown h5 (nb _ (by omega)) (nb _ (by omega)) (nb _ (by omega))).grown hS (nS _ (by omega)) (nS _ (by omega)) (nS _ (by omega))
  · exact (hS.block _ (by omega) (nS _ (by omega))).trans ((h5.block _ (by omega) (nb _ (by omega))).trans h.res)
  · exact set2_1 ((h5.block _ (by omega) (nb _ (by omega))).trans h.set)
  · exact ownsRow_grownL (ownsRow_grownL h.ot h5 (fun g e hm => own_ne h.ot h.os e (by simpa using hm))) hS (fun g e => nS g (by have := (World.ownsRow.lt h.ot g e).1; omega))
  · have := ownsRow_grownL hown hS (fun g e => nS g (by have := (World.ownsRow.lt hown g e).1; omega))
    rw [cells2_snoc, List.length_append]
    exact this
  · exact (h.bel.trans (h5.below (fun b hb => by have := hlt b hb; omega) (by omega))).setCell (p := ⟨w.heap.size + 1 + 1 + 1 + 1, 1, none⟩) (by show w.heap.size ≤ w.heap.size + 4; omega) _
  · have := hS.size; omega
/-- At the start. -/
theorem PL.new (w : World) (s : ByteArray) : PL w s (.slice none 0 0) (.slice none 0 0) [] [] (0, false) (((((w.alloc (.cells #[.string s] 9)).alloc (.cells #[.slice none 0 0, .slice none 0 0] 25)).alloc (.cells #[.int .i64 0] 3)).alloc (.cells #[.func (.func 111) #[] #[.pointer (some ⟨w.heap.size + 1 + 1, 0, none⟩), .pointer (some ⟨w.heap.size, 0, none⟩)], .bool false] 140)).alloc (.cells #[.slice none 0 0, .slice none 0 0] 25)) := by
  refine ⟨⟨?_, ?_, ?_⟩, ?_, ?_, World.ownsRow_nil _ _ _ _, World.ownsRow_nil _ _ _ _, ?_, by simp⟩
  · refine (Below.heap_alloc _ _ _ (by simp)).trans ((Below.heap_alloc _ _ _ (by simp)).trans ?_)
    have := World.alloc_heap_new ((w.alloc (.cells #[.string s] 9)).alloc (.cells #[.slice none 0 0, .slice none 0 0] 25)) (.cells #[.int .i64 0] 3)
    rwa [World.size_alloc, World.size_alloc] at this
  · exact (Below.heap_alloc _ _ _ (by simp; omega)).trans ((Below.heap_alloc _ _ _ (by simp; omega)).trans ((Below.heap_alloc _ _ _ (by simp; omega)).trans ((Below.heap_alloc _ _ _ (by simp)).trans (World.alloc_heap_new w _))))
  · refine (Below.heap_alloc _ _ _ (by simp)).trans ?_
    have := World.alloc_heap_new (((w.alloc (.cells #[.string s] 9)).alloc (.cells #[.slice none 0 0, .slice none 0 0] 25)).alloc (.cells #[.int .i64 0] 3)) (.cells #[.func (.func 111) #[] #[.pointer (some ⟨w.heap.size + 1 + 1, 0, none⟩), .pointer (some ⟨w.heap.size, 0, none⟩)], .bool false] 140)
    rwa [World.size_alloc, World.size_alloc, World.size_alloc] at this
  · refine (Below.heap_alloc _ _ _ (by simp <;> omega)).trans ((Below.heap_alloc _ _ _ (by simp <;> omega)).trans ((Below.heap_alloc _ _ _ (by simp)).trans ?_))
    have := World.alloc_heap_new (w.alloc (.cells #[.string s] 9)) (.cells #[.slice none 0 0, .slice none 0 0] 25)
    rwa [World.size_alloc] at this
  · have := World.alloc_heap_new ((((w.alloc (.cells #[.string s] 9)).alloc (.cells #[.slice none 0 0, .slice none 0 0] 25)).alloc (.cells #[.int .i64 0] 3)).alloc (.cells #[.func (.func 111) #[] #[.pointer (some ⟨w.heap.size + 1 + 1, 0, none⟩), .pointer (some ⟨w.heap.size, 0, none⟩)], .bool false] 140)) (.cells #[.slice none 0 0, .slice none 0 0] 25)
    rwa [World.size_alloc, World.size_alloc, World.size_alloc, World.size_alloc] at this
  · exact (((((Below.refl w.heap.size w).alloc (Nat.le_refl _) _).alloc (by simp) _).alloc (by simp; omega) _).alloc (by simp; omega) _).alloc (by simp; omega) _
end
/-- What Parse returns. -/
def ParsePost (s : ByteArray) (w : World) (e : Ending) (w' : World) : Prop :=
  ∃ v ts ss d n, e = .returned (.tuple #[v, .int .i64 d, .int .i64 n]) ∧ (∃ m : Nat, n = m ∧ parseF s.data.toList = ((ts, ss), d, m)) ∧ RM w'.heap.size v ts ss w' ∧ Below w.heap.size w w'
end Go.Proofs.YtlhgpeelenelbaaDoor

/- Contract of Parse, for every text. -/
namespace Go.Proofs.YtlhgpeelenelbaaDoor
open Go.RowKit

set_option maxHeartbeats 2000000 in
set_option maxRecDepth 100000 in
theorem parse_long (s : ByteArray) (w : World) (h2 : 3000 < s.size) : Calls Tryd.prog 53 #[.string s] w (ParsePost s w) := by
  have hle : 3000 < (s.size : Int) := by omega
  have HB : Hid (parseF s.data.toList = (([], []), 2, 0)) := Lib.hid (by unfold parseF; rw [if_pos (show 3000 < s.data.toList.length from h2)])
  have S0 := Lib.hid (Two.new (W := w.alloc (.cells #[.string s] 9)) (x := .slice none 0 0) (y := .slice none 0 0) 25)
  rw [World.size_alloc] at S0
  have B0 : Hid (Below w.heap.size w ((w.alloc (.cells #[.string s] 9)).alloc (.cells #[.slice none 0 0, .slice none 0 0] 25))) := Lib.hid (((Below.refl w.heap.size w).alloc (Nat.le_refl _) _).alloc (by simp) _)
  clear h2
  go_enter Tryd.func53, Tryd.ntmps53
  go_wp2_with fail
  have T := S0.out.set (.slice none 0 0) (.slice none 0 0)
  refine bodyPost_ret (v := .tuple #[.agg #[.slice none 0 0, .slice none 0 0], .int .i64 2, .int .i64 0]) (by simp [results, Tryd.results53, go_sem, T.1, T.2.1]) rfl ⟨_, [], [], 2, 0, rfl, ⟨0, rfl, HB.out⟩, ⟨_, _, _, _, _, _, rfl, rtN _ _, rsN _ _⟩, ?_⟩
  exact B0.out

set_option maxHeartbeats 16000000 in
set_option maxRecDepth 1000000 in
theorem parse_any (s : ByteArray) (w : World) : Calls Tryd.prog 53 #[.string s] w (ParsePost s w) := by
  by_cases h2 : 3000 < s.size
  · exact parse_long s w h2
  obtain ⟨iT, hiT, hzT0, hzT1, hzT2⟩ := info_parts infoTurn
  obtain ⟨iS, hiS, hzS0, hzS1, hzS2⟩ := info_parts infoSpan'
  have hle : ¬ (3000 < (s.size : Int)) := by omega
  have hsl : s.data.toList.length = s.size := rfl
  have HSL := Lib.hid hsl
  have S0 := Lib.hid (PL.new w s)
  clear hsl
  go_enter Tryd.func53, Tryd.ntmps53
  go_wp2_with fail
  go_loopg [] s.size (fun g wr => ∃ (v0 v1 : Value) (ts : List T3) (ss : List S2) (a : Nat), a + g = s.size ∧ ts.length + ss.length ≤ a ∧ partsN s.data.toList ts ss a = partsN s.data.toList [] [] 0 ∧ PL w s v0 v1 ts ss (a, false) wr)
  case atStart => exact ⟨_, _, [], [], 0, by simp, by simp, rfl, S0.out⟩
  case round =>
    obtain ⟨v0, v1, ts, ss, a, hag, hlen, hpn, hS⟩ := hrel
    have S := Lib.hid hS
    have HPN := Lib.hid hpn
    have HAG := Lib.hid hag
    have HLEN := Lib.hid hlen
    clear S0 hS hpn hag hlen
    have c0 := S.out.rd.2.1.cell
    have c2 := S.out.rd.1.cell
    have d1 := S.out.c1
    simp only at c2
    obtain ⟨A1, k1, hv1⟩ := own_form S.out.os
    obtain ⟨A0, k0, hv0⟩ := own_form S.out.ot
    subst hv0 hv1
    by_cases hat : a < s.size
    · have hati : (a : Int) < (s.size : Int) := by omega
      by_cases hc1 : (s[a]'hat).toNat = 101
      · by_cases hc2 : ss.length = 0
        · have HCD : Hid ((s[a]'hat).toNat = 101 ∧ ss.length = 0) := Lib.hid ⟨hc1, hc2⟩
          have hb' : ((((s[a]'hat).toNat : Nat) : Int) == 101) = true := beq_iff_eq.2 (by omega)
          have hb3 : (((ss.length : Nat) : Int) == 0) = true := beq_iff_eq.2 (by omega)
          have TN := Lib.hid (fun W (h : RdAt (w.heap.size + 1 + 1) w.heap.size (w.heap.size + 1 + 1 + 1) s (a, false) W) => readTurn_any (w.heap.size + 1 + 1) w.heap.size (w.heap.size + 1 + 1 + 1) s (a, false) W h (by simp; omega) (by omega))
          obtain ⟨⟨⟨tp, tf, tl⟩, ⟨a', b'⟩⟩, hr⟩ : ∃ q, turnF s.data.toList (a, false) = q := ⟨_, rfl⟩
          have HST : Hid (partsN s.data.toList ts ss a = if b' = true then (ts ++ [(tp, tf, tl)], ss, a', true) else partsN s.data.toList (ts ++ [(tp, tf, tl)]) ss a') := Lib.hid (by
            rw [partsN_step (c := s[a]) (byte_at hat), if_pos HCD.out, hr])
          have HMV : Hid (b' = false → a < a' ∧ a' ≤ s.size) := Lib.hid (fun hb => by
            have := turnF_ok (s := s.data.toList) (st := (a, false)) (by rw [hr]; exact hb) (by rw [HSL.out]; exact Nat.le_of_lt hat)
            rw [hr, HSL.out] at this
            exact ⟨this.2.2.1, this.2.2.2⟩)
          rw [hr] at TN
          simp only at TN
          clear hr HCD
          go_wp2_with fail
          go_quiet ((fail))
          all_goals go_wp2_with fail
          obtain ⟨W1, hW1⟩ : ∃ W1, wr.drewN nq = W1 := ⟨_, rfl⟩
          rw [hW1]
          have S1 : Hid (PL w s (.slice A0 ts.length k0) (.slice A1 ss.length k1) ts ss (a, false) W1) := Lib.hid (by rw [← hW1]; exact S.out.drewN nq)
          clear S hW1 c0 c2 d1
          have S2 := Lib.hid S1.out.drew
          have c40 := S1.out.c0
          have f40 := S1.out.f 0
          go_region_law (first
            | (refine step_append_own rfl (.tmp 31) (.tmp 33) 22 rfl (w.heap.size + 5) 27 iT (.agg #[.int .i64 0, .int .i64 0, .int .i64 0]) 3 24 Tryd.underlying22 hiT hzT0 hzT1 hzT2 rfl (by decide) (.slice A0 ts.length k0) ts.length (rowA ts) (by simp [Act.eval]) (S4.out.alloc (.cells #[.int .i64 tp, .int .i64 tf, .int .i64 tl] 27)).ot ⟨w4.heap.size, 0, none⟩ 1 1 [.int .i64 tp, .int .i64 tf, .int .i64 tl] (by simp [Act.eval]) rfl (cells3_new _ _ _ _ _) (one3 _ _ _) (by have := HLEN.out; unfold maxLen; omega) (by have := HLEN.out; omega) (by have := S4.out.siz; simp; omega) ?_; intro v' w5 hown hgrow; obtain ⟨g', cap', rfl⟩ := ownsRow_succ hown; have N : Hid (PL w s (.slice (some ⟨g', 0, none⟩) (ts.length + 1) cap') (.slice A1 ss.length k1) (ts ++ [(tp, tf, tl)]) ss (a', b') (w5.setCell ⟨w.heap.size + 1 + 1 + 1 + 1, 0, none⟩ (.slice (some ⟨g', 0, none⟩) (ts.length + 1) cap'))) := Lib.hid ((S4.out.alloc (.cells #[.int .i64 tp, .int .i64 tf, .int .i64 tl] 27)).turn (x := (tp, tf, tl)) hgrow hown); have d50 : w5.cell? ⟨w.heap.size + 1 + 1 + 1 + 1, 0, none⟩ = some (.slice A0 ts.length k0) := (GrownL.of_row hgrow).cell (S4.out.alloc (.cells #[.int .i64 tp, .int .i64 tf, .int .i64 tl] 27)).c0 (fun hm => by have := (World.ownsRow.lt (S4.out.alloc (.cells #[.int .i64 tp, .int .i64 tf, .int .i64 tl] 27)).ot _ (by simpa using hm)).1; omega); have g50 : w5.frozen? ⟨w.heap.size + 1 + 1 + 1 + 1, 0, none⟩ = false := heap_frozen (((GrownL.of_row hgrow).block _ (by have := (S4.out.alloc (.cells #[.int .i64 tp, .int .i64 tf, .int .i64 tl] 27)).siz; omega) (fun hm => by have := (World.ownsRow.lt (S4.out.alloc (.cells #[.int .i64 tp, .int .i64 tf, .int .i64 tl] 27)).ot _ (by simpa using hm)).1; omega)).trans (S4.out.alloc (.cells #[.int .i64 tp, .int .i64 tf, .int .i64 tl] 27)).set) 0; clear hown hgrow)
            | (go_simp; go_at_call 112; refine (TN.out _ S2.out.rd).mono ?_; rintro e w4 ⟨rfl, hr4, hg4⟩; have S4 := Lib.hid (S2.out.call hr4 hg4); have d40 := S4.out.c0; have g40 := S4.out.f 0; have d40' : ∀ o, (w4.alloc o).cell? ⟨w.heap.size + 1 + 1 + 1 + 1, 0, none⟩ = some (.slice A0 ts.length k0) := fun o => (S4.out.alloc o).c0; clear hr4 hg4))
          all_goals
            clear c40 f40 d50 g50 d40 g40 d40'
            have kr := N.out.rd.r1
            have ka := N.out.rd.1.cell
            simp only at kr ka
            obtain ⟨k0', k1', kf0, kf1⟩ := N.out.r0
            cases b'
            · obtain ⟨m1, m2⟩ := HMV.out rfl
              go_wp2_with fail
              go_roundg (s.size - a')
              case measure => have := HAG.out; omega
              case rel => exact ⟨_, _, ts ++ [(tp, tf, tl)], ss, a', by omega, by have := HLEN.out; simp only [List.length_append, List.length_cons, List.length_nil]; omega, (HPN.out.symm.trans HST.out).symm, N.out⟩
            · have HB : Hid (parseF s.data.toList = (([], []), 7, a')) := Lib.hid (by
                have e := HPN.out.symm.trans HST.out
                rw [if_pos rfl] at e
                unfold parseF
                rw [if_neg (by rw [HSL.out]; omega), e]
                rfl)
              go_wp2_with fail
              go_region
              all_goals go_wp2_with fail
              all_goals
                have q := set2_0 (v := .slice none 0 0) N.out.res
                have q2 := set2_1 (v := .slice none 0 0) q
                have q0 := heap_cell q2 0
                have q1 := heap_cell q2 1
                simp only [List.getElem?_toArray, List.getElem?_cons_zero, List.getElem?_cons_succ] at q0 q1
                refine bodyPost_ret (v := .tuple #[.agg #[.slice none 0 0, .slice none 0 0], .int .i64 7, .int .i64 a']) (by simp [results, Tryd.results53, go_sem, q0, q1]) rfl ⟨_, [], [], 7, a', rfl, ⟨a', rfl, HB.out⟩, ⟨_, _, _, _, _, _, rfl, rtN _ _, rsN _ _⟩, ?_⟩
                exact ((N.out.bel.setCell (p := ⟨w.heap.size + 1, 0, none⟩) (by show w.heap.size ≤ w.heap.size + 1; omega) _).setCell (p := ⟨w.heap.size + 1, 1, none⟩) (by show w.heap.size ≤ w.heap.size + 1; omega) _).drew
        · have HCD : Hid (¬ ((s[a]'hat).toNat = 101 ∧ ss.length = 0)) := Lib.hid (fun h => hc2 h.2)
          have hb' : ((((s[a]'hat).toNat : Nat) : Int) == 101) = true := beq_iff_eq.2 (by omega)
          have hb3 : (((ss.length : Nat) : Int) == 0) = false := beq_eq_false_iff_ne.2 (by omega)
          have TN := Lib.hid (fun W (h : RdAt (w.heap.size + 1 + 1) w.heap.size (w.heap.size + 1 + 1 + 1) s (a, false) W) => readSpan_any (w.heap.size + 1 + 1) w.heap.size (w.heap.size + 1 + 1 + 1) s (a, false) W h (by simp; omega) (by omega))
          obtain ⟨⟨⟨tp, tf⟩, ⟨a', b'⟩⟩, hr⟩ : ∃ q, spanF s.data.toList (a, false) = q := ⟨_, rfl⟩
          have HST : Hid (partsN s.data.toList ts ss a = if b' = true then (ts, ss ++ [(tp, tf)], a', true) else partsN s.data.toList ts (ss ++ [(tp, tf)]) a') := Lib.hid (by
            rw [partsN_step (c := s[a]) (byte_at hat), if_neg HCD.out, hr])
          have HMV : Hid (b' = false → a < a' ∧ a' ≤ s.size) := Lib.hid (fun hb => by
            have := spanF_ok (s := s.data.toList) (st := (a, false)) (by rw [hr]; exact hb) (by rw [HSL.out]; exact Nat.le_of_lt hat)
            rw [hr, HSL.out] at this
            exact ⟨this.2.2.1, this.2.2.2⟩)
          rw [hr] at TN
          simp only at TN
          clear hr HCD
          go_wp2_with fail
          go_quiet ((fail))
          all_goals go_wp2_with fail
          obtain ⟨W1, hW1⟩ : ∃ W1, wr.drewN nq = W1 := ⟨_, rfl⟩
          rw [hW1]
          have S1 : Hid (PL w s (.slice A0 ts.length k0) (.slice A1 ss.length k1) ts ss (a, false) W1) := Lib.hid (by rw [← hW1]; exact S.out.drewN nq)
          clear S hW1 c0 c2 d1
          have S2 := Lib.hid S1.out.drew
          have c40 := S1.out.c1
          have f40 := S1.out.f 1
          go_region_law (first
            | (refine step_append_own rfl (.tmp 37) (.tmp 39) 23 rfl (w.heap.size + 5) 49 iS (.agg #[.int .i64 0, .int .i64 0]) 2 16 Tryd.underlying23 hiS hzS0 hzS1 hzS2 rfl (by decide) (.slice A1 ss.length k1) ss.length (cells2 ss) (by simp [Act.eval]) (S4.out.alloc (.cells #[.int .i64 tp, .int .i64 tf] 49)).os ⟨w4.heap.size, 0, none⟩ 1 1 [.int .i64 tp, .int .i64 tf] (by simp [Act.eval]) rfl (cells2_new _ _ _ _) (one2 _ _) (by have := HLEN.out; unfold maxLen; omega) (by have := HLEN.out; omega) (by have := S4.out.siz; simp; omega) ?_; intro v' w5 hown hgrow; obtain ⟨g', cap', rfl⟩ := ownsRow_succ hown; have N : Hid (PL w s (.slice A0 ts.length k0) (.slice (some ⟨g', 0, none⟩) (ss.length + 1) cap') ts (ss ++ [(tp, tf)]) (a', b') (w5.setCell ⟨w.heap.size + 1 + 1 + 1 + 1, 1, none⟩ (.slice (some ⟨g', 0, none⟩) (ss.length + 1) cap'))) := Lib.hid ((S4.out.alloc (.cells #[.int .i64 tp, .int .i64 tf] 49)).span (x := (tp, tf)) hgrow hown); have d50 : w5.cell? ⟨w.heap.size + 1 + 1 + 1 + 1, 1, none⟩ = some (.slice A1 ss.length k1) := (GrownL.of_row hgrow).cell (S4.out.alloc (.cells #[.int .i64 tp, .int .i64 tf] 49)).c1 (fun hm => by have := (World.ownsRow.lt (S4.out.alloc (.cells #[.int .i64 tp, .int .i64 tf] 49)).os _ (by simpa using hm)).1; omega); have g50 : w5.frozen? ⟨w.heap.size + 1 + 1 + 1 + 1, 1, none⟩ = false := heap_frozen (((GrownL.of_row hgrow).block _ (by have := (S4.out.alloc (.cells #[.int .i64 tp, .int .i64 tf] 49)).siz; omega) (fun hm => by have := (World.ownsRow.lt (S4.out.alloc (.cells #[.int .i64 tp, .int .i64 tf] 49)).os _ (by simpa using hm)).1; omega)).trans (S4.out.alloc (.cells #[.int .i64 tp, .int .i64 tf] 49)).set) 1; clear hown hgrow)
            | (go_simp; go_at_call 113; refine (TN.out _ S2.out.rd).mono ?_; rintro e w4 ⟨rfl, hr4, hg4⟩; have S4 := Lib.hid (S2.out.call hr4 hg4); have d40 := S4.out.c1; have g40 := S4.out.f 1; have d40' : ∀ o, (w4.alloc o).cell? ⟨w.heap.size + 1 + 1 + 1 + 1, 1, none⟩ = some (.slice A1 ss.length k1) := fun o => (S4.out.alloc o).c1; clear hr4 hg4))
          all_goals
            clear c40 f40 d50 g50 d40 g40 d40'
            have kr := N.out.rd.r1
            have ka := N.out.rd.1.cell
            simp only at kr ka
            obtain ⟨k0', k1', kf0, kf1⟩ := N.out.r0
            cases b'
            · obtain ⟨m1, m2⟩ := HMV.out rfl
              go_wp2_with fail
              go_roundg (s.size - a')
              case measure => have := HAG.out; omega
              case rel => exact ⟨_, _, ts, ss ++ [(tp, tf)], a', by omega, by have := HLEN.out; simp only [List.length_append, List.length_cons, List.length_nil]; omega, (HPN.out.symm.trans HST.out).symm, N.out⟩
            · have HB : Hid (parseF s.data.toList = (([], []), 7, a')) := Lib.hid (by
                have e := HPN.out.symm.trans HST.out
                rw [if_pos rfl] at e
                unfold parseF
                rw [if_neg (by rw [HSL.out]; omega), e]
                rfl)
              go_wp2_with fail
              go_region
              all_goals go_wp2_with fail
              all_goals
                have q := set2_0 (v := .slice none 0 0) N.out.res
                have q2 := set2_1 (v := .slice none 0 0) q
                have q0 := heap_cell q2 0
                have q1 := heap_cell q2 1
                simp only [List.getElem?_toArray, List.getElem?_cons_zero, List.getElem?_cons_succ] at q0 q1
                refine bodyPost_ret (v := .tuple #[.agg #[.slice none 0 0, .slice none 0 0], .int .i64 7, .int .i64 a']) (by simp [results, Tryd.results53, go_sem, q0, q1]) rfl ⟨_, [], [], 7, a', rfl, ⟨a', rfl, HB.out⟩, ⟨_, _, _, _, _, _, rfl, rtN _ _, rsN _ _⟩, ?_⟩
                exact ((N.out.bel.setCell (p := ⟨w.heap.size + 1, 0, none⟩) (by show w.heap.size ≤ w.heap.size + 1; omega) _).setCell (p := ⟨w.heap.size + 1, 1, none⟩) (by show w.heap.size ≤ w.heap.size + 1; omega) _).drew
      · have HCD : Hid (¬ ((s[a]'hat).toNat = 101 ∧ ss.length = 0)) := Lib.hid (fun h => hc1 h.1)
        have hb' : ((((s[a]'hat).toNat : Nat) : Int) == 101) = false := beq_eq_false_iff_ne.2 (by omega)
        have hb2 : ((((s[a]'hat).toNat : Nat) : Int) == (((⟨#[101, 118, 101, 114, 121, 32]⟩ : ByteArray)[0]'(by decide)).toNat : Int)) = false := hb'
        have TN := Lib.hid (fun W (h : RdAt (w.heap.size + 1 + 1) w.heap.size (w.heap.size + 1 + 1 + 1) s (a, false) W) => readSpan_any (w.heap.size + 1 + 1) w.heap.size (w.heap.size + 1 + 1 + 1) s (a, false) W h (by simp; omega) (by omega))
        obtain ⟨⟨⟨tp, tf⟩, ⟨a', b'⟩⟩, hr⟩ : ∃ q, spanF s.data.toList (a, false) = q := ⟨_, rfl⟩
        have HST : Hid (partsN s.data.toList ts ss a = if b' = true then (ts, ss ++ [(tp, tf)], a', true) else partsN s.data.toList ts (ss ++ [(tp, tf)]) a') := Lib.hid (by
          rw [partsN_step (c := s[a]) (byte_at hat), if_neg HCD.out, hr])
        have HMV : Hid (b' = false → a < a' ∧ a' ≤ s.size) := Lib.hid (fun hb => by
          have := spanF_ok (s := s.data.toList) (st := (a, false)) (by rw [hr]; exact hb) (by rw [HSL.out]; exact Nat.le_of_lt hat)
          rw [hr, HSL.out] at this
          exact ⟨this.2.2.1, this.2.2.2⟩)
        rw [hr] at TN
        simp only at TN
        clear hr HCD
        go_wp2_with fail
        go_quiet ((fail))
        all_goals go_wp2_with fail
        obtain ⟨W1, hW1⟩ : ∃ W1, wr.drewN nq = W1 := ⟨_, rfl⟩
        rw [hW1]
        have S1 : Hid (PL w s (.slice A0 ts.length k0) (.slice A1 ss.length k1) ts ss (a, false) W1) := Lib.hid (by rw [← hW1]; exact S.out.drewN nq)
        clear S hW1 c0 c2 d1
        have S2 := Lib.hid S1.out.drew
        have c40 := S1.out.c1
        have f40 := S1.out.f 1
        go_region_law (first
          | (refine step_append_own rfl (.tmp 37) (.tmp 39) 23 rfl (w.heap.size + 5) 49 iS (.agg #[.int .i64 0, .int .i64 0]) 2 16 Tryd.underlying23 hiS hzS0 hzS1 hzS2 rfl (by decide) (.slice A1 ss.length k1) ss.length (cells2 ss) (by simp [Act.eval]) (S4.out.alloc (.cells #[.int .i64 tp, .int .i64 tf] 49)).os ⟨w4.heap.size, 0, none⟩ 1 1 [.int .i64 tp, .int .i64 tf] (by simp [Act.eval]) rfl (cells2_new _ _ _ _) (one2 _ _) (by have := HLEN.out; unfold maxLen; omega) (by have := HLEN.out; omega) (by have := S4.out.siz; simp; omega) ?_; intro v' w5 hown hgrow; obtain ⟨g', cap', rfl⟩ := ownsRow_succ hown; have N : Hid (PL w s (.slice A0 ts.length k0) (.slice (some ⟨g', 0, none⟩) (ss.length + 1) cap') ts (ss ++ [(tp, tf)]) (a', b') (w5.setCell ⟨w.heap.size + 1 + 1 + 1 + 1, 1, none⟩ (.slice (some ⟨g', 0, none⟩) (ss.length + 1) cap'))) := Lib.hid ((S4.out.alloc (.cells #[.int .i64 tp, .int .i64 tf] 49)).span (x := (tp, tf)) hgrow hown); have d50 : w5.cell? ⟨w.heap.size + 1 + 1 + 1 + 1, 1, none⟩ = some (.slice A1 ss.length k1) := (GrownL.of_row hgrow).cell (S4.out.alloc (.cells #[.int .i64 tp, .int .i64 tf] 49)).c1 (fun hm => by have := (World.ownsRow.lt (S4.out.alloc (.cells #[.int .i64 tp, .int .i64 tf] 49)).os _ (by simpa using hm)).1; omega); have g50 : w5.frozen? ⟨w.heap.size + 1 + 1 + 1 + 1, 1, none⟩ = false := heap_frozen (((GrownL.of_row hgrow).block _ (by have := (S4.out.alloc (.cells #[.int .i64 tp, .int .i64 tf] 49)).siz; omega) (fun hm => by have := (World.ownsRow.lt (S4.out.alloc (.cells #[.int .i64 tp, .int .i64 tf] 49)).os _ (by simpa using hm)).1; omega)).trans (S4.out.alloc (.cells #[.int .i64 tp, .int .i64 tf] 49)).set) 1; clear hown hgrow)
          | (go_simp; go_at_call 113; refine (TN.out _ S2.out.rd).mono ?_; rintro e w4 ⟨rfl, hr4, hg4⟩; have S4 := Lib.hid (S2.out.call hr4 hg4); have d40 := S4.out.c1; have g40 := S4.out.f 1; have d40' : ∀ o, (w4.alloc o).cell? ⟨w.heap.size + 1 + 1 + 1 + 1, 1, none⟩ = some (.slice A1 ss.length k1) := fun o => (S4.out.alloc o).c1; clear hr4 hg4))
        all_goals
          clear c40 f40 d50 g50 d40 g40 d40'
          have kr := N.out.rd.r1
          have ka := N.out.rd.1.cell
          simp only at kr ka
          obtain ⟨k0', k1', kf0, kf1⟩ := N.out.r0
          cases b'
          · obtain ⟨m1, m2⟩ := HMV.out rfl
            go_wp2_with fail
            go_roundg (s.size - a')
            case measure => have := HAG.out; omega
            case rel => exact ⟨_, _, ts, ss ++ [(tp, tf)], a', by omega, by have := HLEN.out; simp only [List.length_append, List.length_cons, List.length_nil]; omega, (HPN.out.symm.trans HST.out).symm, N.out⟩
          · have HB : Hid (parseF s.data.toList = (([], []), 7, a')) := Lib.hid (by
              have e := HPN.out.symm.trans HST.out
              rw [if_pos rfl] at e
              unfold parseF
              rw [if_neg (by rw [HSL.out]; omega), e]
              rfl)
            go_wp2_with fail
            go_region
            all_goals go_wp2_with fail
            all_goals
              have q := set2_0 (v := .slice none 0 0) N.out.res
              have q2 := set2_1 (v := .slice none 0 0) q
              have q0 := heap_cell q2 0
              have q1 := heap_cell q2 1
              simp only [List.getElem?_toArray, List.getElem?_cons_zero, List.getElem?_cons_succ] at q0 q1
              refine bodyPost_ret (v := .tuple #[.agg #[.slice none 0 0, .slice none 0 0], .int .i64 7, .int .i64 a']) (by simp [results, Tryd.results53, go_sem, q0, q1]) rfl ⟨_, [], [], 7, a', rfl, ⟨a', rfl, HB.out⟩, ⟨_, _, _, _, _, _, rfl, rtN _ _, rsN _ _⟩, ?_⟩
              exact ((N.out.bel.setCell (p := ⟨w.heap.size + 1, 0, none⟩) (by show w.heap.size ≤ w.heap.size + 1; omega) _).setCell (p := ⟨w.heap.size + 1, 1, none⟩) (by show w.heap.size ≤ w.heap.size + 1; omega) _).drew
    · have hati : (s.size : Int) ≤ (a : Int) := by omega
      have HE : Hid (partsN s.data.toList [] [] 0 = (ts, ss, a, false)) := Lib.hid (HPN.out.symm.trans (partsN_end (by rw [HSL.out]; omega)))
      have HOK : Hid (AllOk ts ss) := Lib.hid (by
        have := partsL_ok s.data.toList (s.data.toList.length - 0) [] [] 0 allOk_nil (by have := HE.out; unfold partsN at this; rw [this])
        have e := HE.out; unfold partsN at e; rw [e] at this; exact this)
      have hl3 : ts.length ≤ 3000 ∧ ss.length ≤ 3000 := by have := HLEN.out; have := HAG.out; omega
      have CK : Hid (∀ W c, PL w s (.slice A0 ts.length k0) (.slice A1 ss.length k1) ts ss (a, false) W → CheckIs ts ss c → Calls Tryd.prog 25 #[.agg #[.slice A0 ts.length k0, .slice A1 ss.length k1]] W fun e w' => e = .returned (.int .i64 c) ∧ Below W.heap.size W w') := Lib.hid fun W c S hc => check_any _ _ ts ss c W (rt_of_row S.ot (by omega)) (rs_of_row S.os (by omega)) hc
      have d0 := S.out.c0
      by_cases hbig : 24 < ts.length ∨ 40 < ss.length
      · have HB : Hid (parseF s.data.toList = (([], []), 2, 0)) := Lib.hid (by
          unfold parseF
          rw [if_neg (by rw [HSL.out]; omega), HE.out]
          simp [hbig])
        go_wp2_with fail
        refine (CK.out _ 2 S.out (.inl ⟨hbig, rfl⟩)).mono ?_
        rintro e w6 ⟨rfl, h6⟩
        have q6 := (h6.block _ (by have := S.out.siz; omega)).trans S.out.res
        have hB6 := S.out.bel.trans (h6.mono (by have := S.out.siz; omega))
        have Q6 := Lib.hid (And.intro q6 hB6)
        have p0 := heap_cell q6 0
        have p1 := heap_cell q6 1
        have pf0 := heap_frozen q6 0
        have pf1 := heap_frozen q6 1
        simp only [List.getElem?_toArray, List.getElem?_cons_zero, List.getElem?_cons_succ] at p0 p1
        clear h6 q6 hB6 c0 c2 d0 d1
        go_wp2_with fail
        have q := set2_0 (v := .slice none 0 0) Q6.out.1
        have q2 := set2_1 (v := .slice none 0 0) q
        have q0 := heap_cell q2 0
        have q1 := heap_cell q2 1
        simp only [List.getElem?_toArray, List.getElem?_cons_zero, List.getElem?_cons_succ] at q0 q1
        refine bodyPost_ret (v := .tuple #[.agg #[.slice none 0 0, .slice none 0 0], .int .i64 2, .int .i64 0]) (by simp [results, Tryd.results53, go_sem, q0, q1]) rfl ⟨_, [], [], 2, 0, rfl, ⟨0, rfl, HB.out⟩, ⟨_, _, _, _, _, _, rfl, rtN _ _, rsN _ _⟩, ?_⟩
        exact (Q6.out.2.setCell (p := ⟨w.heap.size + 1, 0, none⟩) (by show w.heap.size ≤ w.heap.size + 1; omega) _).setCell (p := ⟨w.heap.size + 1, 1, none⟩) (by show w.heap.size ≤ w.heap.size + 1; omega) _
      · have HB : Hid (parseF s.data.toList = ((ts, ss), 0, 0)) := Lib.hid (by
          unfold parseF
          rw [if_neg (by rw [HSL.out]; omega), HE.out]
          simp [hbig])
        go_wp2_with fail
        refine (CK.out _ 0 S.out (.inr (.inl ⟨by omega, by omega, HOK.out, rfl⟩))).mono ?_
        rintro e w6 ⟨rfl, h6⟩
        have q6 := (h6.block _ (by have := S.out.siz; omega)).trans S.out.res
        have hB6 := S.out.bel.trans (h6.mono (by have := S.out.siz; omega))
        have ot6 := ownsRow_grownL S.out.ot (GrownL.of_below (bs := []) h6) (fun g e hm => by cases hm)
        have os6 := ownsRow_grownL S.out.os (GrownL.of_below (bs := []) h6) (fun g e hm => by cases hm)
        have e0 := h6.cell (p := ⟨w.heap.size + 1 + 1 + 1 + 1, 0, none⟩) (by have := S.out.siz; show w.heap.size + 1 + 1 + 1 + 1 < _; omega)
        rw [S.out.c0] at e0
        have e1 := h6.cell (p := ⟨w.heap.size + 1 + 1 + 1 + 1, 1, none⟩) (by have := S.out.siz; show w.heap.size + 1 + 1 + 1 + 1 < _; omega)
        rw [S.out.c1] at e1
        have Q6 := Lib.hid (And.intro q6 (And.intro hB6 (And.intro ot6 os6)))
        have p0 := heap_cell q6 0
        have p1 := heap_cell q6 1
        have pf0 := heap_frozen q6 0
        have pf1 := heap_frozen q6 1
        simp only [List.getElem?_toArray, List.getElem?_cons_zero, List.getElem?_cons_succ] at p0 p1
        clear h6 q6 hB6 ot6 os6 c0 c2 d0 d1
        go_wp2_with fail
        have q := set2_0 (v := .slice A0 ts.length k0) Q6.out.1
        have q2 := set2_1 (v := .slice A1 ss.length k1) q
        have q0 := heap_cell q2 0
        have q1 := heap_cell q2 1
        simp only [List.getElem?_toArray, List.getElem?_cons_zero, List.getElem?_cons_succ] at q0 q1
        refine bodyPost_ret (v := .tuple #[.agg #[.slice A0 ts.length k0, .slice A1 ss.length k1], .int .i64 0, .int .i64 0]) (by simp [results, Tryd.results53, go_sem, q0, q1]) rfl ⟨_, ts, ss, 0, 0, rfl, ⟨0, rfl, HB.out⟩, ?_, ?_⟩
        · have gR : GrownL [w.heap.size + 1] w6 ((w6.setCell ⟨w.heap.size + 1, 0, none⟩ (.slice A0 ts.length k0)).setCell ⟨w.heap.size + 1, 1, none⟩ (.slice A1 ss.length k1)) := (GrownL.set _ _ _ (by simp)).trans (GrownL.set _ _ _ (by simp))
          exact ⟨_, _, _, _, _, _, rfl, rt_of_row (ownsRow_grownL Q6.out.2.2.1 gR (fun g e hm => by have := (World.ownsRow.lt Q6.out.2.2.1 g e).1; simp at hm; omega)) (by omega), rs_of_row (ownsRow_grownL Q6.out.2.2.2 gR (fun g e hm => by have := (World.ownsRow.lt Q6.out.2.2.2 g e).1; simp at hm; omega)) (by omega)⟩
        · exact (Q6.out.2.1.setCell (p := ⟨w.heap.size + 1, 0, none⟩) (by show w.heap.size ≤ w.heap.size + 1; omega) _).setCell (p := ⟨w.heap.size + 1, 1, none⟩) (by show w.heap.size ≤ w.heap.size + 1; omega) _
end Go.Proofs.YtlhgpeelenelbaaDoor
