/- Plain mathematics of paths, by IDs; slices that a map holds. -/
import Derived.Test.YtkoacclbempmdaaGL
import Derived.OrdersIn
import Derived.RangeFuncCalls
namespace Go.Proofs.Ytkoacclbempmdaa
open Go.RowKit Go.Maps

/-- The path of an outlet, as IDs. -/
noncomputable def pathV (ws : Wk) (i : Nat) : List Int := (pathOf ws i).map (idAt ws)
/-- The path of the outlet with an ID, among some outlets; nothing if there is none. -/
noncomputable def byIdS (ws : Wk) (s : List Pl) (id : Int) : List Int := match s.find? fun p => decide (p.o.id = id) with
 | some p => pathV ws p.at_
 | none => []
/-- The ID of the outlet that feeds a carrier, among some outlets; 0 if there is none. -/
def feedS (s : List Pl) (c : Nat) : Int := match s.find? fun p => decide (p.o.into = (c : Int)) with
 | some p => p.o.id
 | none => 0
theorem find_snoc {s : List Pl} {p : Pl} {q : Pl → Bool} (h : ∀ x ∈ s, q x = false) : (s ++ [p]).find? q = if q p then some p else none := by
 rw [List.find?_append, List.find?_eq_none.2 (fun x hx => by rw [h x hx]; decide)]
 cases hq : q p <;> simp [hq]
theorem find_pass {s : List Pl} {p : Pl} {q : Pl → Bool} (h : q p = false) : (s ++ [p]).find? q = s.find? q := by
 rw [List.find?_append]
 simp [h]
theorem mem_take_at {ws : Wk} {n : Nat} {q : Pl} (h : q ∈ (allP ws).take n) : ∃ j, j < n ∧ (allP ws)[j]? = some q := by
 obtain ⟨j, hj⟩ := List.mem_iff_getElem?.1 h
 rw [List.getElem?_take] at hj
 split at hj
 ·exact ⟨j, by assumption, hj⟩
 ·cases hj
theorem byIdS_same {ws : Wk} (hw : WOk ws) {n : Nat} {p : Pl} (hp : (allP ws)[n]? = some p) : byIdS ws ((allP ws).take n ++ [p]) p.o.id = pathV ws n := by
 unfold byIdS
 rw [find_snoc (fun x hx => by
  obtain ⟨j, hj, hx⟩ := mem_take_at hx
  exact decide_eq_false ((hw.one j n x p hx hp hj).1))]
 simp [(allP_inv hp).1]
theorem byIdS_other {ws : Wk} {s : List Pl} {p : Pl} {id : Int} (h : p.o.id ≠ id) : byIdS ws (s ++ [p]) id = byIdS ws s id := by
 unfold byIdS
 rw [find_pass (decide_eq_false h)]
theorem feedS_same {ws : Wk} (hw : WOk ws) {n c : Nat} {p : Pl} (hp : (allP ws)[n]? = some p) (h : p.o.into = c) : feedS ((allP ws).take n ++ [p]) c = p.o.id := by
 unfold feedS
 rw [find_snoc (fun x hx => by
  obtain ⟨j, hj, hx⟩ := mem_take_at hx
  exact decide_eq_false (fun e => (hw.one j n x p hx hp hj).2 (by omega) (by rw [e, h])))]
 simp [h]
theorem feedS_other {s : List Pl} {p : Pl} {c : Nat} (h : p.o.into ≠ c) : feedS (s ++ [p]) c = feedS s c := by
 unfold feedS
 rw [find_pass (decide_eq_false h)]
theorem find_at {ws : Wk} {n k : Nat} {q : Pl → Bool} {p : Pl} (hk : k < n) (hp : (allP ws)[k]? = some p) (hq : q p = true) (hno : ∀ j x, j < k → (allP ws)[j]? = some x → q x = false) : ((allP ws).take n).find? q = some p := by
 have hl := (List.getElem?_eq_some_iff.1 hp)
 have hl1 := hl.1
 have e : (allP ws).take n = (allP ws).take k ++ (p :: ((allP ws).take n).drop (k + 1)) := by
  have h1 : ((allP ws).take n).take k = (allP ws).take k := by rw [List.take_take, Nat.min_eq_left (by omega)]
  have h2 : ((allP ws).take n).drop k = p :: ((allP ws).take n).drop (k + 1) := by
   rw [List.drop_eq_getElem_cons (by rw [List.length_take]; omega)]
   congr 1
   rw [List.getElem_take, hl.2]
  rw [← h1, ← h2, List.take_append_drop]
 rw [e, List.find?_append, List.find?_eq_none.2 (fun x hx => by
  obtain ⟨j, hj, hx⟩ := mem_take_at hx
  rw [hno j x hj hx]; decide)]
 simp [hq]
theorem byIdS_at {ws : Wk} (hw : WOk ws) {n k : Nat} {p : Pl} (hk : k < n) (hp : (allP ws)[k]? = some p) : byIdS ws ((allP ws).take n) p.o.id = pathV ws k := by
 unfold byIdS
 rw [find_at hk hp (by simp) (fun j x hj hx => decide_eq_false ((hw.one j k x p hx hp hj).1))]
 simp [(allP_inv hp).1]
theorem byIdS_none {ws : Wk} {s : List Pl} {id : Int} (h : ∀ p ∈ s, p.o.id ≠ id) : byIdS ws s id = [] := by
 unfold byIdS
 rw [List.find?_eq_none.2 (fun x hx => by simpa using h x hx)]
theorem feedS_at {ws : Wk} (hw : WOk ws) {n k c : Nat} {p : Pl} (hk : k < n) (hp : (allP ws)[k]? = some p) (h : p.o.into = c) : feedS ((allP ws).take n) c = p.o.id := by
 unfold feedS
 rw [find_at hk hp (by simp [h]) (fun j x hj hx => decide_eq_false (fun e => (hw.one j k x p hx hp hj).2 (by omega) (by rw [e, h])))]
theorem feedS_none {s : List Pl} {c : Nat} (h : ∀ p ∈ s, p.o.into ≠ c) : feedS s c = 0 := by
 unfold feedS
 rw [List.find?_eq_none.2 (fun x hx => by simpa using h x hx)]
theorem pathOf_eq {ws : Wk} (hw : WOk ws) {i : Nat} {l : List Nat} (h : PathIs ws i l) : pathOf ws i = l := (pathOf_is hw h.lt).unique h
/-- The path of the next outlet. -/
theorem path_next {ws : Wk} (hw : WOk ws) {n : Nat} {p : Pl} (hp : (allP ws)[n]? = some p) : pathV ws n = byIdS ws ((allP ws).take n) (feedS ((allP ws).take n) p.c) ++ [p.o.id] := by
 obtain ⟨r, hr⟩ := FstIs.exists_ (fun o : Ou => o.into) (outs ws) p.c
 have hid : idAt ws n = p.o.id := idAt_eq (outs_get hp).1
 by_cases h0 : 0 ≤ r
 ·obtain ⟨j, rfl⟩ : ∃ j : Nat, r = j := ⟨r.toNat, by omega⟩
  have hlt := up_lt hw hp hr
  obtain ⟨q, hq⟩ := at_total (ws := ws) (n := j) (by have := lt_total hp; omega)
  have hqc : q.o.into = p.c := by
   rcases hr with ⟨i, o, ho, he, -, h2⟩ | ⟨-, h2⟩
   ·obtain rfl : i = j := by omega
    rw [(outs_get hq).1] at ho
    cases ho
    exact he
   ·omega
  have hl := pathOf_is hw (lt_total hq)
  unfold pathV
  rw [pathOf_eq hw (.step hp hr hl), feedS_at hw hlt hq hqc, byIdS_at hw hlt hq, List.map_append, List.map_singleton, hid]
  rfl
 ·have hr1 : r = -1 := by
   rcases hr with ⟨i, o, ho, he, -, h2⟩ | ⟨-, h2⟩
   ·omega
   ·exact h2
  subst hr1
  have hno : ∀ q ∈ (allP ws).take n, q.o.into ≠ p.c := fun q hq e => by
   obtain ⟨j, hj, hq⟩ := mem_take_at hq
   rcases hr with ⟨i, o, ho, he, -, h2⟩ | ⟨h2, -⟩
   ·omega
   ·exact h2 j q.o (outs_get hq).1 e
  unfold pathV
  rw [pathOf_eq hw (.head hp hr), feedS_none hno, byIdS_none (fun q hq e => by
   obtain ⟨j, hj, hq⟩ := mem_take_at hq
   have := (hw.ou hq).i0
   omega)]
  simp [hid]
theorem pathV_len {ws : Wk} (hw : WOk ws) {i : Nat} (hi : i < total ws) : (pathV ws i).length ≤ 60 := by
 unfold pathV
 rw [List.length_map]
 have := (pathOf_is hw hi).len hw
 have := hw.tot
 omega
theorem byIdS_len {ws : Wk} (hw : WOk ws) (n : Nat) (id : Int) : (byIdS ws ((allP ws).take n) id).length ≤ 60 := by
 unfold byIdS
 split
 ·rename_i p h
  obtain ⟨j, hj, hq⟩ := mem_take_at (List.mem_of_find?_eq_some h)
  rw [(allP_inv hq).1]
  exact pathV_len hw (lt_total hq)
 ·simp

/-! Slices as a map holds them. -/
def hdD (v : Value) : DataW Unit := match v with
 | .slice (some ⟨b, 0, none⟩) n c => .agg [.lit (.int .i64 b), .lit (.int .i64 n), .lit (.int .i64 c)]
 | _ => .nil
def hdR (v : Value) : Option (DataW Unit × List MemPlace) := match v with
 | .slice none 0 0 => some (.nil, [])
 | .slice (some ⟨b, 0, none⟩) n c => some (.agg [.lit (.int .i64 b), .lit (.int .i64 n), .lit (.int .i64 c)], [])
 | _ => none
theorem hdR_own {α : Type} {enc : α → List Value} {s : Nat} {e : TypeId} {base : Nat} {v : Value} {l : List α} {W : World} (h : OwnG enc s e base v l W) : hdR v = some (hdD v, []) := by
 rcases h.2 with ⟨rfl, -⟩ | ⟨g, cap, cur, rfl, -⟩
 ·rfl
 ·rfl
theorem hdR_inv {v v' : Value} {ps : List MemPlace} (h : hdR v' = some (hdD v, ps)) (hv : hdR v = some (hdD v, [])) : v' = v := by
 unfold hdR at h hv
 split at h
 ·split at hv
  ·rfl
  ·simp [hdD] at h
  ·cases hv
 ·split at hv
  ·simp [hdD] at h
  ·simp [hdD] at h
   obtain ⟨⟨h1, h2, h3⟩, -⟩ := h
   obtain rfl := Int.ofNat_inj.1 h1
   obtain rfl := Int.ofNat_inj.1 h2
   obtain rfl := Int.ofNat_inj.1 h3
   rfl
  ·cases hv
 ·cases h
/-- What paths keeps of the map: each path that is known lies in a row of its own. -/
def PathsM (ws : Wk) (b base n : Nat) (s : List Pl) (W : World) : Prop :=
 ∃ D : DataW Unit, W.ownsMap Try.prog 3 hdR b n D ∧ ∀ id : Int, ∃ v, D.atKey (.int .i64 id) .nil = hdD v ∧ OwnG encI 1 3 base v (byIdS ws s id) W
theorem PathsM.grown {ws : Wk} {b base n : Nat} {s : List Pl} {W W' : World} {bs : List Nat} (h : PathsM ws b base n s W) (hg : GrownL bs W W') (hb : b ∉ bs) (hn : ∀ k ∈ bs, k < base ∨ W.heap.size ≤ k) : PathsM ws b base n s W' := by
 obtain ⟨D, h1, h2⟩ := h
 refine ⟨D, ownsMap_grown h1 hg hb, fun id => ?_⟩
 obtain ⟨v, hv, ho⟩ := h2 id
 exact ⟨v, hv, ho.grown hg (fun g hgv hm => by have := ho.lt g hgv; have := hn g hm; omega)⟩
theorem PathsM.mono {ws : Wk} {b base n n' : Nat} {s : List Pl} {W : World} (h : PathsM ws b base n s W) (hn : n ≤ n') : PathsM ws b base n' s W := by
 obtain ⟨D, h1, h2⟩ := h
 exact ⟨D, h1.mono hn, h2⟩
theorem PathsM.start (ws : Wk) (w : World) (base : Nat) : PathsM ws w.heap.size base 0 [] (w.alloc (.map #[] 0)) :=
 ⟨.map [], World.ownsMap_made _ _ _ _, fun _ => ⟨.slice none 0 0, rfl, OwnG.nil _ _ _ _ _⟩⟩
theorem zeroSlice (w : World) : (zeroValue 25).run Try.prog w = .ok (.slice none 0 0) w := by kernel_rfl
/-- What is asked of it, now and as long as the map stays. -/
theorem PathsM.look {ws : Wk} {b base n : Nat} {s : List Pl} {W : World} (h : PathsM ws b base n s W) (id : Int) (hwf : (Lit.int .i64 id).wf = true) :
  ∃ v, OwnG encI 1 3 base v (byIdS ws s id) W ∧ ∀ W', W'.heap[b]? = W.heap[b]? → (Instr.lookup 156 (.map (some b)) (.int .i64 id) false).run Try.prog W' = .ok v W' := by
 obtain ⟨D, h1, h2⟩ := h
 obtain ⟨v, hv, ho⟩ := h2 id
 refine ⟨v, ho, fun W' hW => ?_⟩
 have h1' : W'.ownsMap Try.prog 3 hdR b n D := by
  obtain ⟨es, clock, k1, k2⟩ := h1
  exact ⟨es, clock, hW.trans k1, k2⟩
 obtain ⟨v', ps, hrun, hR⟩ := h1'.lookup keyI Try.underlying156 (zeroSlice W') (show hdR (.slice none 0 0) = some (.nil, []) from rfl) (keyOf_int_mk Try.underlying3 hwf)
 rw [hv] at hR
 obtain rfl := hdR_inv hR (hdR_own ho)
 exact hrun
/-- Behind the store of a next one. -/
theorem PathsM.next {ws : Wk} (hw : WOk ws) {b base n k : Nat} {p : Pl} {W W1 : World} {v : Value} (h : PathsM ws b base n ((allP ws).take k) W) (hp : (allP ws)[k]? = some p)
  (hm : ∀ D : DataW Unit, W.ownsMap Try.prog 3 hdR b n D → W1.ownsMap Try.prog 3 hdR b (n + 1) (D.put (.int .i64 p.o.id) (hdD v))) (hg : GrownL [b] W W1) (hb : b < base) (ho : OwnG encI 1 3 base v (pathV ws k) W1) : PathsM ws b base (n + 1) ((allP ws).take k ++ [p]) W1 := by
 obtain ⟨D, h1, h2⟩ := h
 refine ⟨_, hm D h1, fun id => ?_⟩
 by_cases e : p.o.id = id
 ·subst e
  refine ⟨v, ?_, by rw [byIdS_same hw hp]; exact ho⟩
  rw [atKey_put_same h1.isMap (show WideAt.IsKeyLit (.int .i64 _) from trivial)]
 ·obtain ⟨u, hu, hou⟩ := h2 id
  refine ⟨u, ?_, by rw [byIdS_other e]; exact hou.grown hg (fun g hgv hm => by have := hou.lt g hgv; simp at hm; omega)⟩
  rw [atKey_put_other (by simpa using Ne.symm e)]
  exact hu
end Go.Proofs.Ytkoacclbempmdaa

/- A region that draws its order within a fence, in a round too: it is walked without the fence. -/
namespace Go.Proofs.Ytkoacclbempmdaa
open Go.RowKit

/-- Every end but the ordinary one is barred. -/
def OnlyN (Q : Exit → Act → World → Prop) : Exit → Act → World → Prop
 | .normal, a, w => Q .normal a w
 | _, _, _ => False
def noDefer (o : Oper) : Bool := match o.op with
 | .defer _ => false
 | _ => true
theorem noDefer_spec {o : Oper} (h : noDefer o = true) : ∀ c, o.op ≠ .defer c := fun c e => by
 unfold noDefer at h
 rw [e] at h
 cases h
section
variable {F : Fence} {n : Nat} {P : Program} {ops : Array Oper} {Q : Exit → Act → World → Prop} {md : Region.Mode}
/-- A fence that bars nothing. -/
structure Open_ (F : Fence) : Prop where
 fn : ∀ f, F.fn f
 depth : F.depth = none
 calls : ∀ {n : Nat} {P : Program} {f : FuncId} {args : Array Value} {w : World} {R : Ending → World → Prop}, Calls P f args w R → CallsIn F n P f args w R
 rows : ∀ {n : Nat} {P : Program} {row : String} {args : Array Value} {w : World} {R : Value → World → Prop}, Rows P row args w R → RowsIn F n P row args w R
theorem open_wide : Open_ Fence.wide := ⟨fun _ => trivial, rfl, fun h => callsIn_wide.2 h, fun h c cs _ => let ⟨v, w', r, s⟩ := h c cs; ⟨v, w', r, stepsIn_wide.2 s⟩⟩
theorem open_round (l : Nat) : Open_ (Fence.wide.inRound l) := ⟨fun _ => trivial, rfl, fun h => CallsIn.inRound l (callsIn_wide.2 h), fun h c cs _ => let ⟨v, w', r, s⟩ := h c cs; ⟨v, w', r, stepsIn_wide.2 s⟩⟩
theorem not_out : ¬ LetsOut (OnlyN Q) := fun ⟨_, _, h⟩ => h
theorem wpIn_of_wp (hF : Open_ F) {o : Oper} {a : Act} {w : World} {K K' : Act → World → Prop} (hd : noDefer o = true) (hK : ∀ a w, K a w → K' a w) (h : Oper.wp P o a w K (OnlyN Q)) : Oper.wpIn F n P o a w K' Q := by
 refine ⟨fun f _ => hF.fn f, ?_⟩
 rw [Oper.semAt_eq _ _ _ (noDefer_spec hd)]
 unfold Oper.wp at h
 generalize (execOp a.eval o).run P w = r at *
 have hdep : F.depth.isSome = true → 1 ≤ n := fun e => by rw [hF.depth] at e; cases e
 cases r with
 | ok x w' =>
  cases x <;> simp only [Oper.upon, Oper.uponIn] at h ⊢
  case value v => exact hK _ _ h
  case skip => exact hK _ _ h
  case defer d => exact hK _ _ h
  case enter f args =>
   refine ⟨hdep, CallsIn.mono (hF.calls h) fun e w'' he => ?_⟩
   cases e with
   | returned u => exact hK _ _ he
   | panicked c => exact he.elim
   | outgrown => exact (not_out he).elim
  case row row args => exact ⟨hdep, RowsIn.mono (hF.rows h) fun u w'' he => hK _ _ he⟩
 | halt x w' =>
  cases x <;> simp only [Oper.upon, Oper.uponIn] at h ⊢
  case panic u => exact h.elim
theorem wpOpIn_of_wpOp (hF : Open_ F) (hd : ops.all noDefer = true) {i : Nat} {a : Act} {w : World} {K K' : Act → World → Prop} (hK : ∀ a w, K a w → K' a w) (h : wpOp P ops (OnlyN Q) i K a w) : wpOpIn F n P ops Q i K' a w := by
 unfold wpOp at h
 unfold wpOpIn
 cases ho : ops[i]? with
 | none =>
  rw [ho] at h
  exact hK _ _ h
 | some o =>
  rw [ho] at h
  have hdo : noDefer o = true := by
   obtain ⟨hi, rfl⟩ := Array.getElem?_eq_some_iff.1 ho
   exact Array.all_eq_true.1 hd i hi
  show if Region.wanted o (yielded ops a.tmps) then _ else _
  simp only at h
  split
  ·rename_i hw
   rw [if_pos hw] at h
   rcases h with h | ⟨_, h⟩
   ·exact wpIn_of_wp hF hdo hK h
   ·exact (not_out h).elim
  ·rename_i hw
   rw [if_neg hw] at h
   exact ⟨fun f _ => hF.fn f, hK _ _ h⟩
theorem wpAnyIn_of_wpAny (hF : Open_ F) (hd : ops.all noDefer = true) : ∀ (fuel : Nat) (listed : Array Bool) (a : Act) (w : World), wpAny P md ops (OnlyN Q) fuel listed a w → wpAnyIn F n P md ops Q fuel listed a w
 | 0, _, _, _, h => h
 | fuel + 1, _, _, _, h => ⟨h.1, fun i hi => wpOpIn_of_wpOp hF hd (fun a' w' h' => wpAnyIn_of_wpAny hF hd fuel _ a' w' h') (h.2 i hi)⟩
/-- The beginning, within a fence that bars nothing. -/
theorem wpIn_region_held (hF : Open_ F) {S : World → Prop} {id : Nat} {a : Act} {w : World} (hm : P.follows .mixedOrders = true) (hd : ops.all noDefer = true) (hS : S w.drew)
  (h : S w.drew → wpAnyH P .any ops (OnlyN Q) S ops.size (Array.replicate ops.size false) a w.drew) : (Code.region id ops true).wpIn F n P Q a w :=
 wpIn_region_any hm (wpAnyIn_of_wpAny hF hd _ _ _ _ (wpAny_of_held _ _ _ _ (h hS)))
/-- The end. -/
theorem heldN_done {S : World → Prop} {listed : Array Bool} {a : Act} {w : World} (hr : Region.ready md ops listed = []) (h : Q .normal a w) : ∀ fuel, wpAnyH P md ops (OnlyN Q) S fuel listed a w := wpAnyH_done hr h
end
end Go.Proofs.Ytkoacclbempmdaa

/- Contracts of slices.Clone, slices.Contains and slices.Index at numbers, of slices.Clone at spans. -/
namespace Go.Proofs.Ytkoacclbempmdaa
open Go.RowKit

theorem infoSpan : (Try.prog.info? 40).map (fun i => (i.zero, i.size, i.bytes)) = some (some (.agg #[.int .i64 0, .int .i64 0]), 2, 16) := by kernel_rfl
theorem RR.nil_of {α : Type} {enc : α → List Value} {B n c : Nat} {l : List α} {w : World} (h : RR enc B (.slice none n c) l w) : l = [] := by
 obtain ⟨A', c', e, -, hc⟩ := h
 simp only [Value.slice.injEq] at e
 obtain ⟨rfl, -, -⟩ := e
 rcases l with _ | ⟨x, l⟩
 ·rfl
 ·obtain ⟨b, o, e, _⟩ := hc (by simp)
  cases e

set_option maxHeartbeats 8000000 in
set_option maxRecDepth 1000000 in
theorem cloneI_any (v : Value) (xs : List Int) (w : World) (hx : RR encI w.heap.size v xs w) (hn : xs.length ≤ 100000) :
  Calls Try.prog 92 #[v] w fun e w' => ∃ v', e = .returned v' ∧ OwnG encI 1 3 w.heap.size v' xs w' ∧ Below w.heap.size w w' := by
 obtain ⟨i0, hi, hz0, hz1, hz2⟩ := info_parts infoInt
 obtain ⟨A, c, rfl⟩ := hx.slice
 have hq : ∀ W n c', (binOp .eql 25 (.slice A n c') (.slice none 0 0)).run Try.prog W = .ok (.bool A.isNone) W := fun W n c' => by simpa using Lib.run_eql_slice_nil W 25 3 A n c' 0 0 Try.underlying25
 rcases A with _ | ⟨b, o, q⟩
 ·obtain rfl := hx.nil_of
  clear hx
  go_enter Try.func92, Try.ntmps92
  go_wp2_with fail
  go_ret
  exact ⟨_, rfl, OwnG.nil _ _ _ _ _, Below.refl _ _⟩
 ·have hx' : ∀ W, Below w.heap.size w W → OwnG encI 1 3 w.heap.size (.slice (some ⟨w.heap.size, 0, none⟩) 0 0) [] W → ∃ v' W', (Builtin.append_ #[25, 25] 25 #[.slice (some ⟨w.heap.size, 0, none⟩) 0 0, .slice (some ⟨b, o, q⟩) xs.length c]).run Try.prog W = .ok v' W' ∧ OwnG encI 1 3 w.heap.size v' xs W' ∧ Below w.heap.size w W' := fun W hW hO => by
   obtain ⟨v', W', k1, k2, k3, k4⟩ := app_list (P := Try.prog) EI Try.underlying25 hi hz0 hz1 hz2 rfl hO hx hW hW.size (by simp) (by omega) (by decide)
   rw [List.nil_append] at k2
   exact ⟨v', W', k1, k2, hW.trans (k3.below (fun b hb => (hO.lt b (by simpa using hb)).1) hW.size)⟩
  have HL := Lib.hid hx'
  clear hx hx'
  generalize xs.length = n at *
  obtain ⟨v2, w2, r2, o2, b2⟩ := HL.out (w.alloc (.cells #[] 3)) ((Below.refl _ _).alloc (Nat.le_refl _) _) ⟨by simp, .inr ⟨w.heap.size, 0, #[], rfl, Nat.le_refl _, World.alloc_heap_new _ _, Nat.le_refl _, by unfold maxLen; omega, rfl, rfl⟩⟩
  have R2 := Lib.hid r2
  have F := Lib.hid (And.intro o2 b2)
  clear HL r2 o2 b2
  go_enter Try.func92, Try.ntmps92
  go_wp2_with (at_builtin; refine Lib.wpList_append_run _ rfl _ _ _ _ rfl _ _ rfl rfl v2 w2 R2.out ?_)
  go_ret
  exact ⟨_, rfl, F.out.1, F.out.2⟩

set_option maxHeartbeats 8000000 in
set_option maxRecDepth 1000000 in
theorem cloneS_any (v : Value) (xs : List (Int × Int)) (w : World) (hx : RR enc2 w.heap.size v xs w) (hn : xs.length ≤ 100000) :
  Calls Try.prog 127 #[v] w fun e w' => ∃ v', e = .returned v' ∧ OwnG enc2 2 40 w.heap.size v' xs w' ∧ Below w.heap.size w w' := by
 obtain ⟨i0, hi, hz0, hz1, hz2⟩ := info_parts infoSpan
 obtain ⟨A, c, rfl⟩ := hx.slice
 have hq : ∀ W n c', (binOp .eql 44 (.slice A n c') (.slice none 0 0)).run Try.prog W = .ok (.bool A.isNone) W := fun W n c' => by simpa using Lib.run_eql_slice_nil W 44 40 A n c' 0 0 Try.underlying44
 rcases A with _ | ⟨b, o, q⟩
 ·obtain rfl := hx.nil_of
  clear hx
  go_enter Try.func127, Try.ntmps127
  go_wp2_with fail
  go_ret
  exact ⟨_, rfl, OwnG.nil _ _ _ _ _, Below.refl _ _⟩
 ·have hx' : ∀ W, Below w.heap.size w W → OwnG enc2 2 40 w.heap.size (.slice (some ⟨w.heap.size, 0, none⟩) 0 0) [] W → ∃ v' W', (Builtin.append_ #[44, 44] 44 #[.slice (some ⟨w.heap.size, 0, none⟩) 0 0, .slice (some ⟨b, o, q⟩) xs.length c]).run Try.prog W = .ok v' W' ∧ OwnG enc2 2 40 w.heap.size v' xs W' ∧ Below w.heap.size w W' := fun W hW hO => by
   obtain ⟨v', W', k1, k2, k3, k4⟩ := app_list (P := Try.prog) E2 Try.underlying44 hi hz0 hz1 hz2 rfl hO hx hW hW.size (by simp) (by omega) (by decide)
   rw [List.nil_append] at k2
   exact ⟨v', W', k1, k2, hW.trans (k3.below (fun b hb => (hO.lt b (by simpa using hb)).1) hW.size)⟩
  have HL := Lib.hid hx'
  clear hx hx'
  generalize xs.length = n at *
  obtain ⟨v2, w2, r2, o2, b2⟩ := HL.out (w.alloc (.cells #[] 40)) ((Below.refl _ _).alloc (Nat.le_refl _) _) ⟨by simp, .inr ⟨w.heap.size, 0, #[], rfl, Nat.le_refl _, World.alloc_heap_new _ _, Nat.le_refl _, by unfold maxLen; omega, rfl, rfl⟩⟩
  have R2 := Lib.hid r2
  have F := Lib.hid (And.intro o2 b2)
  clear HL r2 o2 b2
  go_enter Try.func127, Try.ntmps127
  go_wp2_with (at_builtin; refine Lib.wpList_append_run _ rfl _ _ _ _ rfl _ _ rfl rfl v2 w2 R2.out ?_)
  go_ret
  exact ⟨_, rfl, F.out.1, F.out.2⟩

/-- Where a number stands in a list first; -1 if it doesn't. -/
def idxI (l : List Int) (x : Int) : Int := match l.idxOf? x with
 | some k => k
 | none => -1
theorem idxI_at {l : List Int} {x : Int} {i : Nat} (hn : ∀ (j : Nat) (n : Int), j < i → l[j]? = some n → n ≠ x) (hi : l[i]? = some x) : idxI l x = i := by
 have e : l.idxOf? x = some i := by
  rw [List.idxOf?_eq_some_iff]
  obtain ⟨h1, h2⟩ := List.getElem?_eq_some_iff.1 hi
  refine ⟨h1, by simpa using h2, fun j hj => ?_⟩
  have := hn j l[j] hj (List.getElem?_eq_getElem (by omega))
  simpa using this
 unfold idxI
 rw [e]
theorem idxI_none {l : List Int} {x : Int} (hn : ∀ (j : Nat) (n : Int), l[j]? = some n → n ≠ x) : idxI l x = -1 := by
 have e : l.idxOf? x = none := by
  rw [List.idxOf?_eq_none_iff]
  intro hm
  obtain ⟨j, hj⟩ := List.mem_iff_getElem?.1 hm
  exact hn j x hj rfl
 unfold idxI
 rw [e]
theorem idxI_mem (l : List Int) (x : Int) : 0 ≤ idxI l x ↔ x ∈ l := by
 unfold idxI
 cases h : l.idxOf? x with
 | none =>
  rw [List.idxOf?_eq_none_iff] at h
  simp [h]
 | some k =>
  obtain ⟨h1, h2, -⟩ := List.idxOf?_eq_some_iff.1 h
  have : x ∈ l := by
   have : l[k] = x := by simpa using h2
   rw [← this]
   exact List.getElem_mem h1
  simp [this]

set_option maxHeartbeats 8000000 in
set_option maxRecDepth 1000000 in
theorem indexI_any (v : Value) (l : List Int) (x : Int) (w : World) (h : RR encI w.heap.size v l w) (hl : l.length ≤ 100000) :
  Calls Try.prog 96 #[v, .int .i64 x] w fun e w' => e = .returned (.int .i64 (idxI l x)) ∧ Below w.heap.size w w' := by
 obtain ⟨A, c, rfl⟩ := h.slice
 have H := Lib.hid h
 obtain ⟨r, hr⟩ : ∃ r, idxI l x = r := ⟨_, rfl⟩
 have HR := Lib.hid hr
 have hll : (l.length : Int) ≤ 100000 := by omega
 rw [hr]
 clear h hr
 go_enter Try.func96, Try.ntmps96
 go_wp2_with fail
 go_loopw [8] (fun u wr => ∃ i : Nat, u = .int .i64 i ∧ i ≤ l.length ∧ (∀ (j : Nat) (n : Int), j < i → l[j]? = some n → n ≠ x) ∧ Below w.heap.size w wr) (fun u _ => l.length - (intOf u).toNat)
 case atStart => exact ⟨0, rfl, by omega, fun j n hj => by omega, Below.refl _ _⟩
 case round =>
  obtain ⟨i, rfl, hi, hno, hb⟩ := hrel
  have HNO := Lib.hid hno
  have HB := Lib.hid hb
  clear hno
  by_cases hil : i < l.length
  ·have hi0 : (i : Int) < (l.length : Int) := by omega
   obtain ⟨n, hn⟩ : ∃ n, l[i]? = some n := ⟨_, List.getElem?_eq_getElem hil⟩
   have HN := Lib.hid hn
   obtain ⟨bo, oo, c1, e1, -, -⟩ := (H.out.up hb.size hb).at_ EI hn
   simp only [Value.slice.injEq] at e1
   obtain ⟨rfl, -, -⟩ := e1
   have q0 : wr.cell? ⟨bo, oo + i, none⟩ = some (.int .i64 n) := by have := (H.out.up hb.size hb).cellsAt EI hn (i := 0) rfl; rwa [Nat.mul_one] at this
   clear hn hb
   by_cases he : x = n
   ·have HE := Lib.hid he
    have heb : (x == n) = true := by simp [he]
    clear he
    go_wp2_with fail
    go_ret
    exact ⟨by rw [← HR.out, idxI_at HNO.out (by rw [HN.out, HE.out])]; rfl, HB.out⟩
   ·have HE := Lib.hid he
    have heb : (x == n) = false := by simp [he]
    clear he
    go_wp2_with fail
    go_roundw
    case rel => exact ⟨i + 1, by go_num, by omega, fun j m hj hm => by
     rcases Nat.lt_or_ge j i with h | h
     ·exact HNO.out j m h hm
     ·obtain rfl : j = i := by omega
      rw [HN.out] at hm
      cases hm
      exact Ne.symm HE.out, HB.out⟩
    case measure => show l.length - ((i : Int) + 1).toNat < l.length - (i : Int).toNat; omega
  ·have hi0 : (l.length : Int) ≤ (i : Int) := by omega
   go_wp2_with fail
   go_ret
   exact ⟨by rw [← HR.out, idxI_none (fun j n hj => HNO.out j n (by have := (List.getElem?_eq_some_iff.1 hj).1; omega) hj)]; rfl, HB.out⟩

set_option maxHeartbeats 8000000 in
theorem containsI_any (v : Value) (l : List Int) (x : Int) (w : World) (h : RR encI w.heap.size v l w) (hl : l.length ≤ 100000) :
  Calls Try.prog 112 #[v, .int .i64 x] w fun e w' => e = .returned (.bool (decide (x ∈ l))) ∧ Below w.heap.size w w' := by
 have C := indexI_any v l x w h hl
 obtain ⟨r, hr⟩ : ∃ r, idxI l x = r := ⟨_, rfl⟩
 have hd : decide (0 ≤ r) = decide (x ∈ l) := by rw [← hr]; exact decide_eq_decide.2 (idxI_mem l x)
 have HD := Lib.hid hd
 rw [hr] at C
 clear hr hd
 go_enter Try.func112, Try.ntmps112
 go_wp2_with fail
 refine C.mono ?_
 rintro e w1 ⟨rfl, b1⟩
 have B := Lib.hid b1
 clear b1
 go_wp2_with fail
 go_ret
 exact ⟨by rw [← HD.out]; rfl, B.out⟩
end Go.Proofs.Ytkoacclbempmdaa
