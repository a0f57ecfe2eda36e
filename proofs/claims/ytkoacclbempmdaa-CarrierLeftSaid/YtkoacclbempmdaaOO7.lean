/- What flows, as it lies in memory; water that reads. -/
import Derived.Test.YtkoacclbempmdaaOO6
import Derived.Deep.MidRow
namespace Go.Proofs.Ytkoacclbempmdaa
open Go.RowKit

section
variable {F : Fence} {n : Nat} {P : Program} {op : Oper} {a : Act} {w w' : World} {K : Act → World → Prop} {Q : Exit → Act → World → Prop}
/-- A load, by its run. -/
theorem wpIn_load_run (ty : TypeId) (x : Operand) (ho : op.op = .load ty x) {u v : Value} (hx : a.eval x = u) (hr : (Instr.loadAt ty u).run P w = .ok v w) (h : K (a.put op.dst v) w) : op.wpIn F n P a w K Q := by
 unfold Oper.wpIn
 refine ⟨by simp [Oper.about, ho], ?_⟩
 rw [Oper.semAt_plain F _ _ (by rw [ho]; intro c hc'; cases hc')]
 unfold execOp
 simp only [ho, hx, Sem.run_bind, hr, Result.andThen_ok, Sem.run_pure]
 exact h
/-- A store, by its run. -/
theorem wpIn_store_run (ty : TypeId) (x y : Operand) (ho : op.op = .store ty x y) {u v : Value} (hx : a.eval x = u) (hy : a.eval y = v) (hr : (Instr.storeAt ty u v).run P w = .ok () w') (h : K (a.put op.dst undef) w') : op.wpIn F n P a w K Q := by
 unfold Oper.wpIn
 refine ⟨by simp [Oper.about, ho], ?_⟩
 rw [Oper.semAt_plain F _ _ (by rw [ho]; intro c hc'; cases hc')]
 unfold execOp
 simp only [ho, hx, hy, Sem.run_bind, hr, Result.andThen_ok, Sem.run_pure]
 exact h
/-- The same outside of a fence. -/
theorem wp_load_run (ty : TypeId) (x : Operand) (ho : op.op = .load ty x) {u v : Value} (hx : a.eval x = u) (hr : (Instr.loadAt ty u).run P w = .ok v w) (h : K (a.put op.dst v) w) : op.wp P a w K Q := by
 unfold Oper.wp execOp
 simp only [ho, hx, Sem.run_bind, hr, Result.andThen_ok, Sem.run_pure]
 exact h
theorem wp_store_run (ty : TypeId) (x y : Operand) (ho : op.op = .store ty x y) {u v : Value} (hx : a.eval x = u) (hy : a.eval y = v) (hr : (Instr.storeAt ty u v).run P w = .ok () w') (h : K (a.put op.dst undef) w') : op.wp P a w K Q := by
 unfold Oper.wp execOp
 simp only [ho, hx, hy, Sem.run_bind, hr, Result.andThen_ok, Sem.run_pure]
 exact h
end

/-- Water that reads, below block B. -/
def RWa (B : Nat) (v : Value) (s : Wa) (w : World) : Prop := ∃ a b c d, v = .agg #[a, b, c, d] ∧ RR encI B a s.river w ∧ RR encI B b s.boards w ∧ RR encI B c s.leaks w ∧ RR encI B d s.losses w
theorem RWa.up {B B' : Nat} {v : Value} {s : Wa} {w w' : World} (h : RWa B v s w) (hB : B ≤ B') (hb : Below B w w') : RWa B' v s w' := by
 obtain ⟨a, b, c, d, e, h1, h2, h3, h4⟩ := h
 exact ⟨a, b, c, d, e, h1.up hB hb, h2.up hB hb, h3.up hB hb, h4.up hB hb⟩
theorem RWa.form {B : Nat} {v : Value} {s : Wa} {w : World} (h : RWa B v s w) : ∃ A1 c1 A2 c2 A3 c3 A4 c4, v = .agg #[.slice A1 s.river.length c1, .slice A2 s.boards.length c2, .slice A3 s.leaks.length c3, .slice A4 s.losses.length c4] := by
 obtain ⟨a, b, c, d, rfl, h1, h2, h3, h4⟩ := h
 obtain ⟨A1, c1, rfl⟩ := h1.slice
 obtain ⟨A2, c2, rfl⟩ := h2.slice
 obtain ⟨A3, c3, rfl⟩ := h3.slice
 obtain ⟨A4, c4, rfl⟩ := h4.slice
 exact ⟨_, _, _, _, _, _, _, _, rfl⟩
theorem RWa.parts {B : Nat} {a b c d : Value} {s : Wa} {w : World} (h : RWa B (.agg #[a, b, c, d]) s w) : RR encI B a s.river w ∧ RR encI B b s.boards w ∧ RR encI B c s.leaks w ∧ RR encI B d s.losses w := by
 obtain ⟨a', b', c', d', e, h1, h2, h3, h4⟩ := h
 simp only [Value.agg.injEq, Array.mk.injEq, List.cons.injEq, and_true] at e
 obtain ⟨rfl, rfl, rfl, rfl⟩ := e
 exact ⟨h1, h2, h3, h4⟩
/-- A number of a list of numbers, in memory. -/
theorem RR.int {B : Nat} {A : Option Addr} {n c : Nat} {l : List Int} {w : World} (h : RR encI B (.slice A n c) l w) {k : Nat} {x : Int} (hk : l[k]? = some x) : ∃ b o, A = some ⟨b, o, none⟩ ∧ b < B ∧ w.cell? ⟨b, o + k, none⟩ = some (.int .i64 x) := by
 obtain ⟨b, o, c', e, hb, hc⟩ := h.at_ EI hk
 simp only [Value.slice.injEq] at e
 obtain ⟨rfl, -, -⟩ := e
 have := hc 0 _ rfl
 rw [Nat.mul_one] at this
 exact ⟨b, o, rfl, hb, this⟩

theorem RI.int {B : Nat} {A : Option Addr} {n c : Nat} {l : List Int} {w : World} (h : RI B (.slice A n c) l w) {k : Nat} {x : Int} (hk : l[k]? = some x) : ∃ b o, A = some ⟨b, o, none⟩ ∧ b < B ∧ w.cell? ⟨b, o + k, none⟩ = some (.int .i64 x) := by
 obtain ⟨A', c', e, -, hc⟩ := h
 simp only [Value.slice.injEq] at e
 obtain ⟨rfl, -, -⟩ := e
 obtain ⟨b, o, e, hb, q⟩ := hc (by have := (List.getElem?_eq_some_iff.1 hk).1; omega)
 exact ⟨b, o, e, hb, q k x hk⟩

/-- What flows, cell by cell: through 60 outlets, the tails of 16 carriers, what is lost. -/
def fsL (f : FS) : List Value := (List.range 60).map (fun i => .int .i64 (f.thr.getD i 0)) ++ ((List.range 16).map (fun c => .int .i64 (f.t c)) ++ [.int .i64 f.lost])
theorem fsL_len (f : FS) : (fsL f).length = 77 := by simp [fsL]
theorem fsL_thr (f : FS) {i : Nat} (h : i < 60) : (fsL f)[i]? = some (.int .i64 (f.thr.getD i 0)) := by
 unfold fsL
 rw [List.getElem?_append_left (by simpa using h), List.getElem?_map, List.getElem?_range h]
 rfl
theorem fsL_t (f : FS) {c : Nat} (h : c < 16) : (fsL f)[60 + c]? = some (.int .i64 (f.t c)) := by
 unfold fsL
 rw [List.getElem?_append_right (by simp), List.getElem?_append_left (by simp; omega), List.getElem?_map, show 60 + c - (List.map (fun i => Value.int .i64 (f.thr.getD i 0)) (List.range 60)).length = c by simp, List.getElem?_range h]
 rfl
theorem fsL_lost (f : FS) : (fsL f)[76]? = some (.int .i64 f.lost) := by
 unfold fsL
 rw [List.getElem?_append_right (by simp), List.getElem?_append_right (by simp)]
 simp
theorem fsL_one (f : FS) : ∀ v ∈ fsL f, v.oneCell' = true := fun v hv => by
 unfold fsL at hv
 rcases List.mem_append.1 hv with h | h
 ·obtain ⟨i, -, rfl⟩ := List.mem_map.1 h
  rfl
 ·rcases List.mem_append.1 h with h | h
  ·obtain ⟨i, -, rfl⟩ := List.mem_map.1 h
   rfl
  ·rw [List.mem_singleton] at h
   subst h
   rfl
/-- It lies in block g. -/
structure FsA (g : Nat) (f : FS) (W : World) : Prop where
 thr : ∀ i, i < 60 → W.cell? ⟨g, i, none⟩ = some (.int .i64 (f.thr.getD i 0))
 t : ∀ c, c < 16 → W.cell? ⟨g, 60 + c, none⟩ = some (.int .i64 (f.t c))
 lost : W.cell? ⟨g, 76, none⟩ = some (.int .i64 f.lost)
 fz : ∀ i, W.frozen? ⟨g, i, none⟩ = false
theorem FsA.lt {g : Nat} {f : FS} {W : World} (h : FsA g f W) : g < W.heap.size := World.block_lt_of_cell? _ _ h.lost
theorem FsA.grown {g : Nat} {f : FS} {W W' : World} {bs : List Nat} (h : FsA g f W) (hg : GrownL bs W W') (hn : g ∉ bs) : FsA g f W' :=
 ⟨fun i hi => hg.cell (h.thr i hi) hn, fun c hc => hg.cell (h.t c hc) hn, hg.cell h.lost hn, fun i => (World.frozen?_of_block (hg.block _ h.lt hn)).trans (h.fz i)⟩
theorem FsA.range {g : Nat} {f : FS} {W : World} (h : FsA g f W) : W.rangeAt g 0 (fsL f) := fun j v hj => by
 have hl := (List.getElem?_eq_some_iff.1 hj).1
 rw [fsL_len] at hl
 rw [Nat.zero_add]
 rcases Nat.lt_or_ge j 60 with h1 | h1
 ·rw [fsL_thr f h1] at hj
  rw [h.thr j h1]
  exact hj
 ·rcases Nat.lt_or_ge j 76 with h2 | h2
  ·obtain ⟨c, rfl⟩ : ∃ c, j = 60 + c := ⟨j - 60, by omega⟩
   rw [fsL_t f (by omega)] at hj
   rw [h.t c (by omega)]
   exact hj
  ·obtain rfl : j = 76 := by omega
   rw [fsL_lost] at hj
   rw [h.lost]
   exact hj
/-- The tails that the first i heads have. -/
def startN (ws : Wk) (s : Wa) (i : Nat) (c : Nat) : Int := match ((headsN ws).take i).idxOf? c with
 | some k => s.river.getD k 0
 | none => 0
theorem startN_all (ws : Wk) (s : Wa) {i : Nat} (h : (headsN ws).length ≤ i) : startN ws s i = startT ws s := by
 funext c
 unfold startN startT
 rw [List.take_of_length_le h]
 rfl
theorem startN_zero (ws : Wk) (s : Wa) : startN ws s 0 = fun _ => 0 := by
 funext c
 simp [startN]
theorem headsN_nodup (ws : Wk) : (headsN ws).Nodup := (List.nodup_range).filter _
theorem headsN_lt {ws : Wk} {c : Nat} (h : c ∈ headsN ws) : c < ws.length := by
 unfold headsN at h
 have := (List.mem_filter.1 h).1
 simpa using this
theorem startN_succ {ws : Wk} (s : Wa) {i c : Nat} {x : Int} (hc : (headsN ws)[i]? = some c) (hx : s.river[i]? = some x) (d : Nat) : startN ws s (i + 1) d = if d = c then x else startN ws s i d := by
 unfold startN
 have hi := (List.getElem?_eq_some_iff.1 hc).1
 have hl : ((headsN ws).take i).length = i := by rw [List.length_take]; omega
 rw [take_snoc_get hc]
 by_cases e : d = c
 ·subst e
  have hnot : d ∉ (headsN ws).take i := fun hm => by
   obtain ⟨j, hj⟩ := List.mem_iff_getElem?.1 hm
   rw [List.getElem?_take] at hj
   split at hj
   ·rename_i hji
    have := (List.getElem?_inj (by omega) (headsN_nodup ws)).1 (hj.trans hc.symm)
    omega
   ·cases hj
  rw [if_pos rfl, show ((headsN ws).take i ++ [d]).idxOf? d = some i by
   rw [List.idxOf?_eq_some_iff]
   refine ⟨by simp; omega, by rw [List.getElem_append_right (by omega)]; simp, fun j hj => ?_⟩
   rw [List.getElem_append_left (by omega)]
   have : ((headsN ws).take i)[j]'(by omega) ∈ (headsN ws).take i := List.getElem_mem _
   intro e
   exact hnot (e ▸ this)]
  simp [List.getD_eq_getElem?_getD, hx]
 ·rw [if_neg e]
  have : ((headsN ws).take i ++ [c]).idxOf? d = ((headsN ws).take i).idxOf? d := by
   cases hx : ((headsN ws).take i).idxOf? d with
   | none =>
    rw [List.idxOf?_eq_none_iff] at hx ⊢
    simpa [e] using hx
   | some k =>
    rw [List.idxOf?_eq_some_iff] at hx ⊢
    obtain ⟨h1, h2, h3⟩ := hx
    refine ⟨by rw [List.length_append]; omega, by rw [List.getElem_append_left h1]; exact h2, fun j hj => ?_⟩
    rw [List.getElem_append_left (by omega)]
    exact h3 j hj
  rw [this]
end Go.Proofs.Ytkoacclbempmdaa
