/- A region that draws its order and ends with a store that waits for all else: what is held need not hold behind that store. -/
import Derived.Test.YtkoacclbempmdaaOOE
namespace Go.Proofs.Ytkoacclbempmdaa
open Go.RowKit

section
variable {P : Program} {ops : Array Oper} {Q : Exit → Act → World → Prop} {md : Region.Mode} {S : World → Prop} {z : Nat}
/-- Whatever order is picked, S holds behind each operation but the last one, z. -/
def wpAnyT (P : Program) (md : Region.Mode) (ops : Array Oper) (Q : Exit → Act → World → Prop) (S : World → Prop) (z : Nat) : Nat → Array Bool → Act → World → Prop
 | 0, listed, a, w => Region.ready md ops listed = [] ∧ Q .normal a w
 | fuel + 1, listed, a, w => (Region.ready md ops listed = [] → Q .normal a w) ∧
  ∀ i ∈ Region.ready md ops listed, wpOp P ops Q i (fun a' w' => (i = z ∨ S w') ∧ wpAnyT P md ops Q S z fuel (listed.setIfInBounds i true) a' w') a w
theorem wpAny_of_T : ∀ (fuel : Nat) (listed : Array Bool) (a : Act) (w : World), wpAnyT P md ops Q S z fuel listed a w → wpAny P md ops Q fuel listed a w
 | 0, _, _, _, h => h
 | fuel + 1, _, _, _, h => ⟨h.1, fun i hi => wpOp_mono (fun a' w' h' => wpAny_of_T fuel _ a' w' h'.2) (h.2 i hi)⟩
/-- The last one waits for another one. -/
def waitsFor (md : Region.Mode) (ops : Array Oper) (z i : Nat) : Bool := match ops[z]? with
 | some o => o.after.any fun e => Region.binds md e && e.on == i
 | none => false
theorem wpAnyT_first {i : Nat} {oi : Oper} {v : Value} (hi : ops[i]? = some oi) (hsel : ∀ (j : Nat) (o : Oper) cs b, ops[j]? = some o → o.op ≠ .select cs b)
  (hQ : ∀ c a w, Q (.panic c) (a.put oi.dst v) w → Q (.panic c) a w) (hiz : i ≠ z) (hwz : waitsFor md ops z i = true) :
  ∀ (fuel : Nat) (listed : Array Bool) (a : Act) (w : World),
   (∀ j oj, ops[j]? = some oj → j ≠ i → listed.getD j true = false → (∀ e ∈ oj.after, Region.binds md e = true → e.on ≠ i) → oi.apart ops oj = true) →
   i ∈ Region.ready md ops listed → YieldsIf P ops S oi v a → S w →
   wpAnyT P md ops Q S z fuel (listed.setIfInBounds i true) (a.put oi.dst v) w → wpAnyT P md ops Q S z (fuel + 1) listed a w := by
 intro fuel
 induction fuel with
 | zero =>
  intro listed a w _ hr hy hS H
  refine ⟨fun h => (by rw [h] at hr; cases hr), fun j hj => ?_⟩
  by_cases hji : j = i
  ·subst hji; exact hy.wpOp hi hS ⟨.inr hS, H⟩
  ·have := ready_mono hj hji
   rw [H.1] at this
   cases this
 | succ fuel ih =>
  intro listed a w hfree hr hy hS H
  refine ⟨fun h => (by rw [h] at hr; cases hr), fun j hj => ?_⟩
  by_cases hji : j = i
  ·subst hji; exact hy.wpOp hi hS ⟨.inr hS, H⟩
  ·have h1 := H.2 j (ready_mono hj hji)
   obtain ⟨hjun, oj, hoj, hall⟩ := mem_ready.1 hj
   have hin : ∀ m : Nat, m = i → listed.getD m false = true → False := fun m heq h1 => by
    have h0 := (mem_ready.1 hr).1
    rw [heq] at h1
    rcases Nat.lt_or_ge i listed.size with h' | h'
    ·simp [h'] at h0 h1; rw [h0] at h1; cases h1
    ·simp [Array.getElem?_eq_none h'] at h1
   have hnot : ∀ e ∈ oj.after, Region.binds md e = true → e.on ≠ i := fun e he hb heq => hin e.on heq (hall e he hb)
   have hjz : j ≠ z := fun e => by
    subst e
    unfold waitsFor at hwz
    rw [hoj] at hwz
    obtain ⟨e, he, hb⟩ := Array.any_eq_true'.1 hwz
    rw [Bool.and_eq_true, beq_iff_eq] at hb
    exact hnot e he hb.1 hb.2
   have h2 := wpOp_putIf hoj (hfree j oj hoj hji hjun hnot) (fun cs b => hsel i oi cs b hi) (fun cs b => hsel j oj cs b hoj) hQ hy h1
   have hfree' : ∀ k ok, ops[k]? = some ok → k ≠ i → (listed.setIfInBounds j true).getD k true = false →
     (∀ e ∈ ok.after, Region.binds md e = true → e.on ≠ i) → oi.apart ops ok = true := fun k ok hk hki hun hno => by
    refine hfree k ok hk hki ?_ hno
    by_cases hjk : j = k
    ·subst hjk; exact hjun
    ·rw [getD_set_ne true hjk] at hun; exact hun
   refine wpOp_mono (fun a' w' h3 => ?_) h2
   obtain ⟨h4, h5, h6⟩ := h3
   have hS' : S w' := h5.resolve_left hjz
   refine ⟨.inr hS', ih (listed.setIfInBounds j true) a' w' hfree' (ready_mono hr (Ne.symm hji)) h4 hS' ?_⟩
   rw [Array.setIfInBounds_comm _ _ hji]
   exact h6
/-- An operation is taken first; the slot that it writes is named. -/
theorem takeT {i : Nat} {oi : Oper} {v : Value} {d : Option Tmp} {fuel : Nat} {listed : Array Bool} {a : Act} {w : World} (hi : ops[i]? = some oi) (hd : oi.dst = d)
  (hs : Region.noSelect ops = true) (hf : Region.free md ops listed i = true) (hr : (Region.ready md ops listed).contains i = true) (hwz : waitsFor md ops z i = true) (hiz : i ≠ z)
  (hQ : ∀ c a w, Q (.panic c) (a.put d v) w → Q (.panic c) a w) (hw : Region.wanted oi (yielded ops a.tmps) = true) (hy : ∀ w, S w → (execOp a.eval oi).run P w = .ok (.value v) w) (hS : S w)
  (h : wpAnyT P md ops Q S z fuel (listed.setIfInBounds i true) (a.put d v) w) : wpAnyT P md ops Q S z (fuel + 1) listed a w := by
 subst hd; exact wpAnyT_first hi (Region.noSelect_spec hs) hQ hiz hwz fuel listed a w (Region.free_spec hi hf) (by simpa using hr) (.inl ⟨hw, hy⟩) hS h
/-- takeT, with all that is decided by running. -/
theorem tt (i d : Nat) {oi : Oper} {v : Value} {fuel : Nat} {listed : Array Bool} {a : Act} {w : World} (hS : S w) (h : wpAnyT P md ops Q S z fuel (listed.setIfInBounds i true) (a.put (some d) v) w)
  (hi : ops[i]? = some oi := by rfl) (hd : oi.dst = some d := by rfl) (hs : Region.noSelect ops = true := by kernel_rfl) (hf : Region.free md ops listed i = true := by kernel_rfl) (hr : (Region.ready md ops listed).contains i = true := by kernel_rfl) (hwz : waitsFor md ops z i = true := by kernel_rfl) (hiz : i ≠ z := by decide)
  (hQ : ∀ c a w, Q (.panic c) (a.put (some d) v) w → Q (.panic c) a w := by exact fun _ _ _ h => h) (hw : Region.wanted oi (yielded ops a.tmps) = true := by rfl)
  (hy : ∀ w, S w → (execOp a.eval oi).run P w = .ok (.value v) w := by intro w' hSw; go_simp; try with_reducible rfl) : wpAnyT P md ops Q S z (fuel + 1) listed a w :=
 takeT hi hd hs hf hr hwz hiz hQ hw hy hS h
/-- tt with facts that hold behind each operation. -/
theorem tq {F : World → Prop} (KK : Hid (∀ w, S w → F w)) (i d : Nat) {oi : Oper} {v : Value} {fuel : Nat} {listed : Array Bool} {a : Act} {w : World} (hS : S w) (h : wpAnyT P md ops Q S z fuel (listed.setIfInBounds i true) (a.put (some d) v) w)
  (hi : ops[i]? = some oi := by rfl) (hd : oi.dst = some d := by rfl) (hs : Region.noSelect ops = true := by kernel_rfl) (hf : Region.free md ops listed i = true := by kernel_rfl) (hr : (Region.ready md ops listed).contains i = true := by kernel_rfl) (hwz : waitsFor md ops z i = true := by kernel_rfl) (hiz : i ≠ z := by decide)
  (hQ : ∀ c a w, Q (.panic c) (a.put (some d) v) w → Q (.panic c) a w := by exact fun _ _ _ h => h) (hw : Region.wanted oi (yielded ops a.tmps) = true := by rfl)
  (hy : ∀ w, S w → F w → (execOp a.eval oi).run P w = .ok (.value v) w := by intro w' hSw q; go_simp; try with_reducible rfl) : wpAnyT P md ops Q S z (fuel + 1) listed a w :=
 takeT hi hd hs hf hr hwz hiz hQ hw (fun w h => hy w h (KK.out w h)) hS h
/-- The one that can come up comes up; it is not the last. -/
theorem oneT {i : Nat} {o : Oper} {fuel : Nat} {listed : Array Bool} {a : Act} {w : World} (hr : Region.ready md ops listed = [i]) (ho : ops[i]? = some o)
  (h : ∀ K' : Act → World → Prop, Shut (∀ a w, S w → wpAnyT P md ops Q S z fuel (listed.setIfInBounds i true) a w → K' a w) → if Region.wanted o (yielded ops a.tmps) = true then Oper.wp P o a w K' Q else K' (a.put o.dst undef) w) : wpAnyT P md ops Q S z (fuel + 1) listed a w := by
 refine ⟨fun h0 => (by rw [hr] at h0; cases h0), fun j hj => ?_⟩
 rw [hr, List.mem_singleton] at hj
 subst hj
 exact wpOp_step ho (fun K' hK => h K' (fun a w hS hW => hK a w ⟨.inr hS, hW⟩))
/-- The last one. -/
theorem lastT {o : Oper} {fuel : Nat} {listed : Array Bool} {a : Act} {w : World} (hr : Region.ready md ops listed = [z]) (ho : ops[z]? = some o)
  (h : ∀ K' : Act → World → Prop, Shut (∀ a w, wpAnyT P md ops Q S z fuel (listed.setIfInBounds z true) a w → K' a w) → if Region.wanted o (yielded ops a.tmps) = true then Oper.wp P o a w K' Q else K' (a.put o.dst undef) w) : wpAnyT P md ops Q S z (fuel + 1) listed a w := by
 refine ⟨fun h0 => (by rw [hr] at h0; cases h0), fun j hj => ?_⟩
 rw [hr, List.mem_singleton] at hj
 subst hj
 exact wpOp_step ho (fun K' hK => h K' (fun a w hW => hK a w ⟨.inl rfl, hW⟩))
theorem doneT {listed : Array Bool} {a : Act} {w : World} (hr : Region.ready md ops listed = []) (h : Q .normal a w) : ∀ fuel, wpAnyT P md ops Q S z fuel listed a w
 | 0 => ⟨hr, h⟩
 | _ + 1 => ⟨fun _ => h, by rw [hr]; simp⟩
theorem doneTN {listed : Array Bool} {a : Act} {w : World} (hr : Region.ready md ops listed = []) (h : Q .normal a w) : ∀ fuel, wpAnyT P md ops (OnlyN Q) S z fuel listed a w := doneT hr h
theorem wp_region_T (z : Nat) {id : Nat} {a : Act} {w : World} (hm : P.follows .mixedOrders = true) (hS : S w.drew) (h : S w.drew → wpAnyT P .any ops Q S z ops.size (Array.replicate ops.size false) a w.drew) : (Code.region id ops true).wp P Q a w :=
 wp_region_any hm (wpAny_of_T _ _ _ _ (h hS))
theorem wpIn_region_T {F : Fence} {n : Nat} (z : Nat) (hF : Open_ F) {id : Nat} {a : Act} {w : World} (hm : P.follows .mixedOrders = true) (hd : ops.all noDefer = true) (hS : S w.drew)
  (h : S w.drew → wpAnyT P .any ops (OnlyN Q) S z ops.size (Array.replicate ops.size false) a w.drew) : (Code.region id ops true).wpIn F n P Q a w :=
 wpIn_region_any hm (wpAnyIn_of_wpAny hF hd _ _ _ _ (wpAny_of_T _ _ _ _ (h hS)))
end
end Go.Proofs.Ytkoacclbempmdaa

/- Lists of one's own that a variable holds, as many as there are; the corner of a case; contract of extreme's closure. -/
namespace Go.Proofs.Ytkoacclbempmdaa
open Go.RowKit

/-- Lists of one's own that a variable holds. -/
structure GL (g base : Nat) (us : List Value) (ls : List (List Int)) (W : World) : Prop where
 c : ∀ (k : Nat) (u : Value), us[k]? = some u → W.cell? ⟨g, k, none⟩ = some u
 f : ∀ k : Nat, W.frozen? ⟨g, k, none⟩ = false
 o : ∀ (k : Nat) (u : Value) (l : List Int), us[k]? = some u → ls[k]? = some l → OwnG encI 1 3 base u l W
 d : ∀ (j k : Nat) (u v : Value) (b : Nat), j ≠ k → us[j]? = some u → us[k]? = some v → u.ownBlock = some b → v.ownBlock ≠ some b
 gb : g < base
 gl : g < W.heap.size
 len : us.length = ls.length
section
variable {g base : Nat} {us : List Value} {ls : List (List Int)} {W W' W4 : World}
theorem GL.grown_ {bs : List Nat} (h : GL g base us ls W) (hg : GrownL bs W W') (hn : g ∉ bs) (hr : ∀ (k : Nat) (u : Value) (b : Nat), us[k]? = some u → u.ownBlock = some b → b ∉ bs) : GL g base us ls W' :=
 ⟨fun k u hu => hg.cell (h.c k u hu) hn, fun k => (World.frozen?_of_block (a := ⟨g, k, none⟩) (hg.block g h.gl hn)).trans (h.f k), fun k u l hu hl => (h.o k u l hu hl).grown hg (fun b hb => hr k u b hu hb), h.d, h.gb, Nat.lt_of_lt_of_le h.gl hg.size, h.len⟩
theorem GL.own (h : GL g base us ls W) {k : Nat} {u : Value} (hu : us[k]? = some u) {b : Nat} (hb : u.ownBlock = some b) : base ≤ b ∧ b < W.heap.size := by
 obtain ⟨l, hl⟩ : ∃ l, ls[k]? = some l := ⟨_, List.getElem?_eq_getElem (by rw [← h.len]; exact (List.getElem?_eq_some_iff.1 hu).1)⟩
 exact (h.o k u l hu hl).lt b hb
theorem GL.grown {bs : List Nat} (h : GL g base us ls W) (hg : GrownL bs W W') (hn : g ∉ bs) (hr : ∀ k ∈ bs, k < base ∨ W.heap.size ≤ k) : GL g base us ls W' :=
 h.grown_ hg hn (fun k u b hu hb hm => by have := h.own hu hb; have := hr b hm; omega)
theorem GL.below (h : GL g base us ls W) (hb : Below W.heap.size W W') : GL g base us ls W' := h.grown (GrownL.of_below (bs := []) hb) (by simp) (by simp)
theorem GL.app (h : GL g base us ls W) {k : Nat} {u v' : Value} {l : List Int} {x : Int} (hu : us[k]? = some u) (hl : ls[k]? = some l) (hg : GrownL u.ownBlock.toList W W4) (ho : OwnG encI 1 3 base v' (l ++ [x]) W4) (ha : v'.ownBlock = u.ownBlock ∨ ∃ n, v'.ownBlock = some n ∧ W.heap.size ≤ n) :
  GL g base (us.set k v') (ls.set k (l ++ [x])) (W4.setCell ⟨g, k, none⟩ v') := by
 have hk := (List.getElem?_eq_some_iff.1 hu).1
 have hk' := (List.getElem?_eq_some_iff.1 hl).1
 have hn : g ∉ u.ownBlock.toList := fun hm => by have := (h.own hu (by simpa using hm)).1; have := h.gb; omega
 have gs : GrownL [g] W4 (W4.setCell ⟨g, k, none⟩ v') := GrownL.set _ _ _ (by simp)
 have oth : ∀ j u', j ≠ k → us[j]? = some u' → (W4.setCell ⟨g, k, none⟩ v').cell? ⟨g, j, none⟩ = some u' := fun j u' hj hu' => (World.cell?_setCell_other _ ⟨g, k, none⟩ ⟨g, j, none⟩ _ (by simp <;> omega)).trans (hg.cell (h.c j u' hu') hn)
 have dd : ∀ j u' b, j ≠ k → us[j]? = some u' → v'.ownBlock = some b → u'.ownBlock ≠ some b := fun j u' b hj hu' hb hb' => by
  rcases ha with e | ⟨n, e, hn'⟩
  ·exact h.d k j u u' b (Ne.symm hj) hu hu' (e ▸ hb) hb'
  ·rw [e] at hb; cases hb; have := (h.own hu' hb').2; omega
 refine ⟨fun j u' hj => ?_, fun j => ?_, fun j u' l' hj hl' => ?_, fun i j u1 u2 b hij h1 h2 hb => ?_, h.gb, ?_, by simp [h.len]⟩
 ·by_cases e : j = k
  ·subst e
   rw [List.getElem?_set_self hk] at hj
   cases hj
   exact World.cell?_setCell_same' _ _ _ (by rw [hg.cell (h.c j u hu) hn]; rfl)
  ·rw [List.getElem?_set_ne (Ne.symm e)] at hj
   exact oth j u' e hj
 ·exact (World.frozen?_setCell _ _ _ _).trans ((World.frozen?_of_block (a := ⟨g, j, none⟩) (hg.block g h.gl hn)).trans (h.f j))
 ·by_cases e : j = k
  ·subst e
   rw [List.getElem?_set_self hk] at hj
   rw [List.getElem?_set_self hk'] at hl'
   cases hj
   cases hl'
   exact ho.grown gs (fun b hb hm => by have := (ho.lt b hb).1; have := h.gb; simp at hm; omega)
  ·rw [List.getElem?_set_ne (Ne.symm e)] at hj hl'
   have ho' := h.o j u' l' hj hl'
   exact (ho'.grown hg (fun b hb hm => h.d k j u u' b (Ne.symm e) hu hj (by simpa using hm) hb)).grown gs (fun b hb hm => by have := (ho'.lt b hb).1; have := h.gb; simp at hm; omega)
 ·by_cases e1 : i = k
  ·subst e1
   rw [List.getElem?_set_self hk] at h1
   cases h1
   rw [List.getElem?_set_ne hij] at h2
   exact dd j u2 b (Ne.symm hij) h2 hb
  ·rw [List.getElem?_set_ne (Ne.symm e1)] at h1
   by_cases e2 : j = k
   ·subst e2
    rw [List.getElem?_set_self hk] at h2
    cases h2
    exact fun hb' => dd i u1 b e1 h1 hb' hb
   ·rw [List.getElem?_set_ne (Ne.symm e2)] at h2
    exact h.d i j u1 u2 b hij h1 h2 hb
 ·have := hg.size
  have := h.gl
  simp
  omega
theorem GL.nils (hg : g < base) (hl : g < W.heap.size) (n : Nat) (hc : ∀ k, k < n → W.cell? ⟨g, k, none⟩ = some (.slice none 0 0)) (hf : ∀ k : Nat, W.frozen? ⟨g, k, none⟩ = false) : GL g base (List.replicate n (.slice none 0 0)) (List.replicate n []) W := by
 refine ⟨fun k u hu => ?_, hf, fun k u l hu hl => ?_, fun i j u v b hij h1 h2 hb => ?_, hg, hl, by simp⟩
 ·rw [List.getElem?_replicate] at hu
  split at hu
  ·cases hu; exact hc k (by assumption)
  ·cases hu
 ·rw [List.getElem?_replicate] at hu hl
  split at hu
  ·rw [if_pos (by assumption)] at hl
   cases hu; cases hl; exact OwnG.nil _ _ _ _ _
  ·cases hu
 ·rw [List.getElem?_replicate] at h1
  split at h1
  ·cases h1; cases hb
  ·cases h1
end

/-- An end of a span, by a sign and a way. -/
def endV (g way lo hi : Int) : Int := if g * way < 0 then hi else lo
/-- How things are at an end of what flows. -/
def exW (ws : Wk) (s : Ca) (e : Nat → Nat) (way : Int) : Wa :=
 ⟨(List.range s.river.length).map (fun i => endV (((headsN ws).map (sgH e)).getD i 0) way (s.river.getD i (0, 0)).1 (s.river.getD i (0, 0)).2),
  (allP ws).map (fun p => endV (sgO e p) way (s.boards.getD p.at_ (0, 0)).1 (s.boards.getD p.at_ (0, 0)).2),
  (allP ws).map (fun p => endV (sgO e p) way p.o.k0 p.o.k1),
  (allP ws).map (fun p => endV (sgR e p) way p.o.s0 p.o.s1)⟩
theorem endV_cases (g way lo hi : Int) : endV g way lo hi = lo ∨ endV g way lo hi = hi := by
 unfold endV
 split
 ·exact .inr rfl
 ·exact .inl rfl
theorem endV_in {g way lo hi : Int} (h : lo ≤ hi) : lo ≤ endV g way lo hi ∧ endV g way lo hi ≤ hi := by
 rcases endV_cases g way lo hi with e | e <;> rw [e] <;> omega
theorem exW_ok {ws : Wk} {s : Ca} (hw : WOk ws) (hc : CaOk ws s) (e : Nat → Nat) (way : Int) : WaOk ws (exW ws s e way) := by
 have hl : (headsL ws).length = (headsN ws).length := by simp [headsL]
 refine ⟨by simp [exW, hc.r, hl], by simp [exW, allP_len], by simp [exW, allP_len], by simp [exW, allP_len], fun x hx => ?_, fun i p x hp hx => ?_, fun i p x hp hx => ?_, fun i p x hp hx => ?_⟩
 ·obtain ⟨i, hi, rfl⟩ := List.mem_map.1 hx
  rw [List.mem_range] at hi
  obtain ⟨y, hy⟩ : ∃ y, s.river[i]? = some y := ⟨_, List.getElem?_eq_getElem hi⟩
  have := spB_iff.1 (hc.rr y (List.mem_of_getElem? hy))
  rw [getD_of hy]
  have := endV_in (g := ((headsN ws).map (sgH e)).getD i 0) (way := way) this.2.1
  omega
 ·unfold exW at hx
  simp only [List.getElem?_map, hp, Option.map_some, Option.some.injEq] at hx
  subst hx
  have hat := (allP_inv hp).1
  obtain ⟨y, hy⟩ : ∃ y, s.boards[i]? = some y := ⟨_, List.getElem?_eq_getElem (by rw [hc.b]; exact lt_total hp)⟩
  rw [hat, getD_of hy]
  have := spB_iff.1 (hc.ob i p y hp hy)
  have := endV_in (g := sgO e p) (way := way) this.2.1
  omega
 ·unfold exW at hx
  simp only [List.getElem?_map, hp, Option.map_some, Option.some.injEq] at hx
  subst hx
  exact endV_in (hw.ou hp).kk
 ·unfold exW at hx
  simp only [List.getElem?_map, hp, Option.map_some, Option.some.injEq] at hx
  subst hx
  exact endV_in (hw.ou hp).ss

set_option maxHeartbeats 8000000 in
theorem extreme1_any (A : Option Addr) (n c i b : Nat) (l : List Int) (g way lo hi : Int) (w : World) (h : RR encI w.heap.size (.slice A n c) l w) (hn : n = l.length) (hi' : l[i]? = some g) (hb : w.cell? ⟨b, 0, none⟩ = some (.int .i64 way)) (h1 : -1 ≤ g) (h2 : g ≤ 1) (h3 : way = 1 ∨ way = -1) :
  Calls Try.prog 141 #[.slice A n c, .int .i64 i, .agg #[.int .i64 lo, .int .i64 hi], .pointer (some ⟨b, 0, none⟩)] w fun e w' => e = .returned (.int .i64 (endV g way lo hi)) ∧ Below w.heap.size w w' := by
 subst hn
 obtain ⟨bo, oo, rfl, hbo, q⟩ := h.int hi'
 have hil : (i : Int) < (l.length : Int) := by have := (List.getElem?_eq_some_iff.1 hi').1; omega
 have hi0 : (0 : Int) ≤ (i : Int) := by omega
 have hp : -1 ≤ g * way ∧ g * way ≤ 1 := by
  rcases h3 with rfl | rfl <;> omega
 obtain ⟨p, hpe⟩ : ∃ p, g * way = p := ⟨_, rfl⟩
 have HV : Hid (endV g way lo hi = if p < 0 then hi else lo) := Lib.hid (by unfold endV; rw [hpe])
 rw [hpe] at hp
 obtain ⟨hp1, hp2⟩ := hp
 have hwr : IntKind.i64.wrap (g * way) = p := by rw [hpe]; exact IntWalk.i64_in _ (by omega)
 have HB2 : Hid (Below w.heap.size w ((w.alloc (.cells #[.int .i64 lo, .int .i64 hi] 40)).drew)) := Lib.hid ((Below.refl _ _).alloc (Nat.le_refl _) _).drew
 have hbw := World.block_lt_of_cell? _ _ hb
 clear h hi' h3 hpe
 go_enter Try.func141, Try.ntmps141
 go_wp2_with fail
 obtain ⟨W2, hW2⟩ : ∃ W2, w.alloc (.cells #[.int .i64 lo, .int .i64 hi] 40) = W2 := ⟨_, rfl⟩
 have q : W2.cell? ⟨bo, oo + i, none⟩ = some (.int .i64 g) := by rw [← hW2]; exact BelS.c ((Below.refl _ _).alloc (Nat.le_refl _) _) q
 have x1 : W2.cell? ⟨b, 0, none⟩ = some (.int .i64 way) := by rw [← hW2]; exact BelS.c ((Below.refl _ _).alloc (Nat.le_refl _) _) hb
 have x2 : W2.cell? ⟨w.heap.size, 0, none⟩ = some (.int .i64 lo) := by rw [← hW2]; simp [go_sem]
 have x3 : W2.cell? ⟨w.heap.size, 1, none⟩ = some (.int .i64 hi) := by rw [← hW2]; simp [go_sem]
 rw [hW2] at HB2 ⊢
 clear hb hW2
 refine wp_region_held_drew  (S := BelS W2) (by kernel_rfl) (BelS.drew0 _) (fun J0 => ?_)
 refine tw 0 8 J0 ?_ (hy := by intro w' hSw; have q0 := hSw.c q; have q1 := hSw.c x1; go_simp; try with_reducible rfl)
 try simp only [aS]
 refine tw 1 9 J0 ?_ (hy := by intro w' hSw; have q0 := hSw.c q; have q1 := hSw.c x1; go_simp; try with_reducible rfl)
 try simp only [aS]
 refine tw 2 10 J0 ?_ (hy := by intro w' hSw; have q0 := hSw.c q; have q1 := hSw.c x1; go_simp; try with_reducible rfl)
 try simp only [aS]
 refine tw 3 11 J0 ?_ (hy := by intro w' hSw; have q0 := hSw.c q; have q1 := hSw.c x1; go_simp; try with_reducible rfl)
 try simp only [aS]
 refine tw 4 12 J0 ?_ (hy := by intro w' hSw; have q0 := hSw.c q; have q1 := hSw.c x1; go_simp; try with_reducible rfl)
 try simp only [aS]
 refine tw 5 13 J0 ?_ (hy := by intro w' hSw; have q0 := hSw.c q; have q1 := hSw.c x1; go_simp; try with_reducible rfl)
 try simp only [aS]
 refine tw 6 14 J0 ?_ (hy := by intro w' hSw; have q0 := hSw.c q; have q1 := hSw.c x1; go_simp; try with_reducible rfl)
 try simp only [aS]
 refine wpAnyH_done (by kernel_rfl) ?_ _
 clear J0 q
 rcases (by omega : p < 0 ∨ 0 ≤ p) with hp0 | hp0
 ·go_wp2_with fail
  go_ret
  exact ⟨by rw [HV.out, if_pos (by omega)]; rfl, HB2.out⟩
 ·go_wp2_with fail
  go_ret
  exact ⟨by rw [HV.out, if_neg (by omega)]; rfl, HB2.out⟩
end Go.Proofs.Ytkoacclbempmdaa
