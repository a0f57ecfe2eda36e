/- Contract of heads. -/
import Derived.Test.YtkoacclbempmdaaGE
import Derived.Maps.OwnIn
import Derived.Maps.OwnSet
import Derived.Maps.OwnOps
namespace Go.Proofs.Ytkoacclbempmdaa
open Go.RowKit
attribute [local go_sem] Oper.semAt_some

/-- Whether one of some outlets feeds a carrier. -/
def fedB (s : List Pl) (c : Nat) : Bool := s.any fun p => decide (p.o.into = c)
/-- The carriers that no outlet feeds. -/
def headsN (ws : Wk) : List Nat := (List.range ws.length).filter fun c => !fedB (allP ws) c
def headsL (ws : Wk) : List Int := (headsN ws).map Int.ofNat
theorem fedB_snoc (s : List Pl) (p : Pl) (c : Nat) : fedB (s ++ [p]) c = (fedB s c || decide (p.o.into = c)) := by simp [fedB]
/-- The array of what is fed, in the block g. -/
def Fed (g : Nat) (s : List Pl) (W : World) : Prop := ∀ c, c < 16 → W.cell? ⟨g, c, none⟩ = some (.bool (fedB s c)) ∧ W.frozen? ⟨g, c, none⟩ = false
theorem Fed.lt {g : Nat} {s : List Pl} {W : World} (h : Fed g s W) : g < W.heap.size := World.block_lt_of_cell? _ _ (h 0 (by decide)).1
theorem Fed.grown {g : Nat} {s : List Pl} {W W' : World} {bs : List Nat} (h : Fed g s W) (hg : GrownL bs W W') (hn : g ∉ bs) : Fed g s W' := fun c hc => by
 obtain ⟨h1, h2⟩ := h c hc
 exact ⟨hg.cell h1 hn, (World.frozen?_of_block (hg.block _ (World.block_lt_of_cell? _ _ h1) hn)).trans h2⟩
theorem Fed.below {g : Nat} {s : List Pl} {W W' : World} (h : Fed g s W) (hb : Below W.heap.size W W') : Fed g s W' := h.grown (GrownL.of_below (bs := []) hb) (by simp)
theorem Fed.set {g : Nat} {s : List Pl} {W : World} {p : Pl} {c : Nat} (h : Fed g s W) (hc : c < 16) (hp : p.o.into = c) : Fed g (s ++ [p]) (W.setCell ⟨g, c, none⟩ (.bool true)) := fun d hd => by
 obtain ⟨h1, h2⟩ := h d hd
 refine ⟨?_, (World.frozen?_setCell _ _ _ _).trans h2⟩
 by_cases e : d = c
 ·subst e
  rw [fedB_snoc, decide_eq_true hp, Bool.or_true]
  exact World.cell?_setCell_same' _ _ _ (by rw [h1]; rfl)
 ·rw [fedB_snoc, decide_eq_false (by omega), Bool.or_false, World.cell?_setCell_other _ ⟨g, c, none⟩ ⟨g, d, none⟩ _ (by simp <;> omega)]
  exact h1
theorem Fed.pass {g : Nat} {s : List Pl} {W : World} {p : Pl} (h : Fed g s W) (hp : p.o.into < 0) : Fed g (s ++ [p]) W := fun d hd => by
 obtain ⟨h1, h2⟩ := h d hd
 rw [fedB_snoc, decide_eq_false (by omega), Bool.or_false]
 exact ⟨h1, h2⟩

theorem infoInt : (Try.prog.info? 3).map (fun i => (i.zero, i.size, i.bytes)) = some (some (.int .i64 0), 1, 8) := by kernel_rfl
/-- What the loop over all outlets keeps in heads. -/
def HdI (w : World) (v : Value) (_ : List Nat) (s : List Pl) (W : World) : Prop :=
 Fed (w.heap.size + 1) s W ∧ W.cell? ⟨w.heap.size, 0, none⟩ = some v ∧ KP w (w.heap.size + 2) v W
theorem HdI.grown {w W W' : World} {v : Value} {O O' bs : List Nat} {s : List Pl} (h : HdI w v O s W) (hg : GrownL bs W W') (hn : ∀ b ∈ bs, w.heap.size + 3 ≤ b) : HdI w v O' s W' := by
 have n : ∀ k, k ≤ w.heap.size + 2 → k ∉ bs := fun k hk hm => by have := hn k hm; omega
 exact ⟨h.1.grown hg (n _ (by omega)), hg.cell h.2.1 (n _ (by show w.heap.size ≤ _; omega)), h.2.2.1.trans (hg.below (fun b hb => by have := hn b hb; omega) h.2.2.1.size), hg.cell h.2.2.2 (n _ (Nat.le_refl _))⟩
theorem somePl_mem {ws : Wk} {s : List Pl} {x : Pl} (h : SomePl ws (s ++ [x])) : x ∈ allP ws := by
 obtain ⟨i, hi, e⟩ := h
 have : x ∈ (allP ws).take (i + 1) := by rw [← e]; simp
 exact List.mem_of_mem_take this
theorem WOk.into {ws : Wk} (h : WOk ws) {p : Pl} (hp : p ∈ allP ws) : p.o.into = -1 ∨ ∃ k : Nat, p.o.into = k ∧ p.c < k ∧ k < ws.length ∧ k < 16 := by
 have := h.ok p hp
 unfold okB at this
 rw [Bool.and_eq_true, intoB_iff] at this
 have hl := h.len
 rcases this.2 with h | ⟨h1, h2⟩
 ·exact .inl h
 ·exact .inr ⟨p.o.into.toNat, by omega, by omega, by omega, by omega⟩
theorem headsL_take {ws : Wk} {k : Nat} (_hk : k < ws.length) : ((List.range (k + 1)).filter fun c => !fedB (allP ws) c) = ((List.range k).filter fun c => !fedB (allP ws) c) ++ (if fedB (allP ws) k then [] else [k]) := by
 rw [List.range_succ, List.filter_append]
 congr 1
 cases h : fedB (allP ws) k <;> simp [h]

set_option maxHeartbeats 8000000 in
set_option maxRecDepth 1000000 in
theorem heads_any (A : Option Addr) (n c : Nat) (ws : Wk) (w : World) (h : RK w.heap.size (.slice A n c) ws w) (hw : WOk ws) :
  Calls Try.prog 102 #[.agg #[.slice A n c]] w fun e w' => ∃ v, e = .returned v ∧ OwnG encI 1 3 w.heap.size v (headsL ws) w' ∧ Below w.heap.size w w' := by
 have hn : n = ws.length := by obtain ⟨_, _, e, _⟩ := h; simp at e; exact e.2.1
 subst hn
 have H := Lib.hid h
 have HW := Lib.hid hw
 clear h hw
 refine (callsIn_wide (n := 3)).1 ?_
 refine callsIn_of_wp_marks Try.func102 rfl trivial ?_ rfl
 simp only [Try.ntmps102, List.size_toArray, List.length_cons, List.length_nil, Nat.reduceAdd, Nat.reduceSub, Array.replicate_succ, Array.replicate_zero, List.push_toArray, List.append_toArray, List.nil_append, List.cons_append]
 gi_wp2_with fail
 refine ⟨trivial, (callsIn_wide.2 (places_any A ws.length c _)).mono ?_⟩
 rintro e w1 ⟨rfl, rfl⟩
 obtain ⟨W0, hW0⟩ : ∃ W0, (((w.alloc (.cells #[.slice A ws.length c] 24)).alloc (.cells #[.bool false, .bool false, .bool false, .bool false, .bool false, .bool false, .bool false, .bool false, .bool false, .bool false, .bool false, .bool false, .bool false, .bool false, .bool false, .bool false] 162)).alloc (.cells #[.slice A ws.length c] 24)) = W0 := ⟨_, rfl⟩
 have hz0 : W0.heap.size = w.heap.size + 3 := by rw [← hW0]; simp
 have hb2 : Below w.heap.size w W0 := by rw [← hW0]; exact (((Below.refl _ _).alloc (Nat.le_refl _) _).alloc (by simp) _).alloc (by simp; omega) _
 have I0 : Hid (HdI w (.slice A ws.length c) [] [] W0) := Lib.hid (by
  refine ⟨fun d hd => ?_, by rw [← hW0]; simp [go_sem], hb2, by rw [← hW0]; simp [go_sem]⟩
  rw [← hW0]
  have : d = 0 ∨ d = 1 ∨ d = 2 ∨ d = 3 ∨ d = 4 ∨ d = 5 ∨ d = 6 ∨ d = 7 ∨ d = 8 ∨ d = 9 ∨ d = 10 ∨ d = 11 ∨ d = 12 ∨ d = 13 ∨ d = 14 ∨ d = 15 := by omega
  rcases this with rfl | rfl | rfl | rfl | rfl | rfl | rfl | rfl | rfl | rfl | rfl | rfl | rfl | rfl | rfl | rfl <;> exact ⟨by simp [go_sem, fedB], by simp [go_sem]⟩)
 have HB2 := Lib.hid hb2
 gi_wp2_with fail
 try rw [hW0]
 refine wpIn_rangeK (gf := 132) (lb := #[.pointer (some ⟨w.heap.size + 1 + 1, 0, none⟩)]) rfl enters_places1
  (places_seq w W0 (w.heap.size + 2) A ws.length c ws H.out (by have := HW.out.tot; omega) (by have := HW.out.len; omega)) (Below.refl _ _) (fun o ho => by cases ho) (fun _ => rfl)
  (HdI w (.slice A ws.length c)) (fun _ _ _ _ => False) (fun _ _ _ h => h.2.2) ?h0 ?hI (fun _ _ _ _ _ _ h _ => h) ?round ?done ?stop
 case h0 =>
  intro W' hb hsz
  exact I0.out.grown (bs := []) (GrownL.of_below hb) (by simp)
 case hI =>
  rintro O O' s W1 W2 hO hi hg hcl
  refine hi.grown hg (fun b hb => ?_)
  rcases List.mem_cons.1 hb with e | hb
  ·omega
  rcases List.mem_cons.1 hb with e | hb
  ·omega
  ·rcases hO _ hb with h | h
   ·cases h
   ·omega
 case round =>
  rintro O pre x W hO hi hsz hsp
  have HI := Lib.hid hi
  have hin := HW.out.into (somePl_mem hsp)
  clear hi hsp
  obtain ⟨xa, xc, xn, x⟩ := x
  dsimp only [encP]
  gi_wp2_with fail
  refine ⟨Keeps.of_below ((Below.refl _ _).alloc (Nat.le_refl _) _), fun W2 hg2 hl2 => ?_⟩
  have hwz : w.heap.size + 5 ≤ W.heap.size := by omega
  have HI2 : Hid (HdI w (.slice A ws.length c) O pre W2) := Lib.hid ((HI.out.grown (O' := O) (GrownL.of_below (bs := []) ((Below.refl W.heap.size W).alloc (Nat.le_refl _) _)) (by simp)).grown hg2 (by simp <;> omega))
  have b1 : W2.cell? ⟨W.heap.size, 1, none⟩ = some (.int .i64 x.into) := hg2.cell (p := ⟨W.heap.size, 1, none⟩) (by simp [go_sem]) (by simp <;> omega)
  clear HI hg2
  rcases hin with hin | ⟨k, hin, -, -, hk⟩
  ·have hin : x.into = _ := hin
   rw [hin] at b1
   gi_wp2_with fail
   exact ⟨Keeps.refl _ _, HI2.out.1.pass (by simp only; omega), HI2.out.2⟩
  ·have hin : x.into = _ := hin
   rw [hin] at b1
   obtain ⟨e1, e2⟩ := HI2.out.1 k hk
   have hk0 : (k : Int) < 16 := by omega
   have hk1 : (0 : Int) ≤ (k : Int) := by omega
   generalize fedB pre k = bb at e1
   gi_wp2_with fail
   have hg3 : GrownL [w.heap.size + 1] W2 (W2.setCell ⟨w.heap.size + 1, k, none⟩ (.bool true)) := GrownL.set _ _ _ (by simp)
   refine ⟨Keeps.of_grown hg3 (fun o ho hm => ?_), HI2.out.1.set hk hin, ?_, HI2.out.2.2.1.trans (hg3.below (by simp) HI2.out.2.2.1.size), ?_⟩
   ·rw [List.mem_singleton] at hm
    rcases List.mem_append.1 ho with h | h
    ·simp at h
     omega
    ·rcases hO _ h with h' | h'
     ·cases h'
     ·omega
   ·exact hg3.cell HI2.out.2.1 (by simp)
   ·exact hg3.cell HI2.out.2.2.2 (by simp)
 case done =>
  rintro O xs W hO hS hi hD hK
  obtain rfl : xs = allP ws := hS
  obtain ⟨i0, hi0, hj0, hj1, hj2⟩ := info_parts infoInt
  have HI := Lib.hid hi
  have HKK := Lib.hid hK
  have t0 := hi.2.1
  have hwz : w.heap.size + 3 < W.heap.size := by have := (Array.getElem?_eq_some_iff.1 hK).1; omega
  have HZ0 := Lib.hid hz0
  clear hi hD hK hz0
  gi_wp2_with fail
  gi_loopw [6, 21] (fun o u wr => ∃ k : Nat, u = .int .i64 k ∧ k ≤ ws.length ∧ OwnG encI 1 3 W.heap.size o (((List.range k).filter fun c => !fedB (allP ws) c).map Int.ofNat) wr ∧ Fed (w.heap.size + 1) (allP ws) wr ∧ Below w.heap.size w wr ∧ W.heap.size ≤ wr.heap.size ∧ wr.heap[W0.heap.size]? = some (.deferred (some []))) (fun _ u _ => ws.length - (intOf u).toNat)
  case atStart => exact ⟨0, rfl, by omega, OwnG.nil _ _ _ _ _, HI.out.1, HI.out.2.2.1, Nat.le_refl _, HKK.out⟩
  case round =>
   obtain ⟨k, rfl, hk, hO, hF, hB, hsz, hK⟩ := hrel
   have HO := Lib.hid hO
   have HF := Lib.hid hF
   have HB := Lib.hid hB
   have HK := Lib.hid hK
   obtain ⟨Av, cv, rfl, -⟩ := hO.form
   clear hO hF hB hK
   by_cases hkl : k < ws.length
   ·have hk0 : (k : Int) < (ws.length : Int) := by omega
    have hk1 : (k : Int) < 16 := by have := HW.out.len; omega
    obtain ⟨e1, e2⟩ := HF.out k (by omega)
    have HT := Lib.hid (headsL_take (ws := ws) hkl)
    obtain ⟨l, hl⟩ : ∃ l, (((List.range k).filter fun c => !fedB (allP ws) c).map Int.ofNat) = l := ⟨_, rfl⟩
    have HL := Lib.hid hl
    have hlb : l.length ≤ 16 := by
     rw [← hl, List.length_map]
     have := List.length_filter_le (fun c => !fedB (allP ws) c) (List.range k)
     rw [List.length_range] at this
     omega
    rw [hl] at HO ⊢
    clear hl
    obtain ⟨bb, hbb⟩ : ∃ bb, fedB (allP ws) k = bb := ⟨_, rfl⟩
    rw [hbb] at e1 HT
    clear hbb
    cases bb
    ·have HT : Hid (((List.range (k + 1)).filter fun c => !fedB (allP ws) c) = ((List.range k).filter fun c => !fedB (allP ws) c) ++ [k]) := Lib.hid HT.out
     obtain ⟨n, hn⟩ : ∃ n, l.length = n := ⟨_, rfl⟩
     have HO2 : Hid (wr.ownsRow W.heap.size 3 1 (.slice Av n cv) n (l.flatMap encI)) := Lib.hid (by have := HO.out; unfold OwnG at this; rwa [hn] at this)
     have HNL := Lib.hid hn
     rw [hn] at hlb ⊢
     clear hn
     gi_wp2_with (gi_at_builtin; refine wpListIn_append_own_at _ rfl _ _ 25 rfl W.heap.size 3 i0 (.int .i64 0) 1 8 Try.underlying25 hi0 hj0 hj1 hj2 rfl (by decide) _ n _ rfl (HO2.out.alloc _) ⟨wr.heap.size, 0, none⟩ 1 1 [.int .i64 k] rfl rfl ?c1 ?c2 ?c3 ?c4 ?c5 ?_)
     case c1 =>
      intro i u hi
      match i, hi with
      | 0, hi => simp at hi; subst hi; simp [go_sem, Addr.add]
      | i + 1, hi => simp at hi
     case c2 => intro u hu; simp at hu; subst hu; rfl
     case c3 => unfold maxLen; omega
     case c4 => omega
     case c5 => simp <;> omega
     intro v' w4 hown' hgrow _ _
     have HLT := Lib.hid fun q (hq : q ∈ (Value.ownBlock (.slice Av n cv)).toList) => HO2.out.lt q (by simpa using hq)
     have g1 := (GrownL.of_below ((Below.refl wr.heap.size wr).alloc (Nat.le_refl _) (.cells #[.int .i64 k] 3))).trans (GrownL.of_row hgrow)
     have R : Hid (OwnG encI 1 3 W.heap.size v' (((List.range (k + 1)).filter fun c => !fedB (allP ws) c).map Int.ofNat) w4) := Lib.hid (by
      rw [HT.out, List.map_append, HL.out]
      unfold OwnG
      rw [List.flatMap_append, List.length_append, HNL.out]
      exact hown')
     have F2 := Lib.hid (HF.out.grown g1 (fun hm => by have := (HLT.out _ hm).1; omega))
     have B2 := Lib.hid (HB.out.trans (g1.below (fun q hq => by have := (HLT.out q hq).1; omega) HB.out.size))
     have Z2 := Lib.hid (Nat.le_trans hsz g1.size)
     have K2 := Lib.hid ((g1.block W0.heap.size (Array.getElem?_eq_some_iff.1 HK.out).1 (fun hm => by have := (HLT.out _ hm).1; have := HZ0.out; omega)).trans HK.out)
     clear hown' hgrow g1
     obtain ⟨Av', cv', rfl, -⟩ := R.out.form
     gi_wp2_with fail
     go_roundw
     case rel => exact ⟨k + 1, by go_num, by omega, R.out, F2.out, B2.out, Z2.out, K2.out⟩
     case measure => show ws.length - ((k : Int) + 1).toNat < ws.length - (k : Int).toNat; omega
    ·have HT : Hid (((List.range (k + 1)).filter fun c => !fedB (allP ws) c) = ((List.range k).filter fun c => !fedB (allP ws) c) ++ []) := Lib.hid HT.out
     gi_wp2_with fail
     go_roundw
     case rel => exact ⟨k + 1, by go_num, by omega, by rw [HT.out, List.append_nil, HL.out]; exact HO.out, HF.out, HB.out, hsz, HK.out⟩
     case measure => show ws.length - ((k : Int) + 1).toNat < ws.length - (k : Int).toNat; omega
   ·have hk0 : (ws.length : Int) ≤ (k : Int) := by omega
    obtain rfl : k = ws.length := by omega
    gi_wp2_with fail
    refine ⟨by simp, .inl ⟨_, _, rfl, run_takeDeferred HK.out, ?_⟩⟩
    refine ⟨_, results_tmp rfl _ _ _, ?_⟩
    have hbel : Below w.heap.size w (wr.putObj W0.heap.size (.deferred none)) := HB.out.trans ((GrownL.putObj (bs := [W0.heap.size]) wr W0.heap.size (.deferred none) (by simp)).below (by have := HZ0.out; simp; omega) HB.out.size)
    have ho : OwnG encI 1 3 W.heap.size (.slice Av (List.map Int.ofNat (List.filter (fun c => !fedB (allP ws) c) (List.range ws.length))).length cv) (headsL ws) (wr.putObj W0.heap.size (.deferred none)) := HO.out.grown (GrownL.putObj (bs := [W0.heap.size]) wr W0.heap.size (.deferred none) (by simp)) (fun g hg hm => by have := (HO.out.lt g hg).1; have := HZ0.out; simp at hm; omega)
    exact ⟨_, rfl, ho.low (by omega), hbel⟩
 case stop =>
  rintro c O pre W hO _ h _
  exact h.elim
end Go.Proofs.Ytkoacclbempmdaa

/- A map of numbers to bools that a call makes: what is asked of it, and what it says. -/
namespace Go.Proofs.Ytkoacclbempmdaa
open Go.RowKit Go.Maps

/-! An element that is a bool. -/
theorem plainElem_bool_inv {H : Type} {P : Program} {e : TypeId} (he : P.underlying e = some .bool) {v : Value} {z : DataW H × List MemPlace} (h : plainElem P e v = some z) : ∃ x, v = .bool x ∧ z = (.lit (.bool x), []) := by
 unfold plainElem at h
 rw [he] at h
 cases v <;> simp at h
 exact ⟨_, rfl, h.symm⟩
theorem lookup_bool {H : Type} {P : Program} {k t e : TypeId} {w : World} {b n : Nat} {D : DataW H} (h : w.ownsMap P k (plainElem P e) b n D) (K : Keyed P k) (ht : P.underlying t = some (.map k e)) (he : P.underlying e = some .bool) (hz : (zeroValue e).run P w = .ok (.bool false) w)
  {key : Value} {kl : Lit} (hkey : keyOf P k key = some kl) {c : Bool} (hat : D.atKey kl (.lit (.bool false)) = .lit (.bool c)) : (Instr.lookup t (.map (some b)) key false).run P w = .ok (.bool c) w := by
 obtain ⟨v, ps, hrun, hv⟩ := h.lookup K ht hz (plainElem_bool he false) hkey
 obtain ⟨x, rfl, hx⟩ := plainElem_bool_inv he hv
 rw [hat] at hx
 simp at hx
 rw [hx.1]
 exact hrun
theorem wpListIn_lookup_own_bool {H : Type} {F : Fence} {nF : Nat} {P : Program} (w : World) {ops : Array Oper} {rest : List Oper} {o : Oper} {a : Act} {Q : Exit → Act → World → Prop}
  (hg : o.guard = none) (m x : Operand) (t : TypeId) (hop : o.op = Op.lookup t m x false)
  (k e : TypeId) (K : Keyed P k) (ht : P.underlying t = some (.map k e)) (he : P.underlying e = some .bool) (hz : (zeroValue e).run P w = .ok (.bool false) w) (b n : Nat) (D : DataW H)
  (hm : a.eval m = .map (some b)) (hown : w.ownsMap P k (plainElem P e) b n D) (key : Value) (kl : Lit) (hx : a.eval x = key) (hkey : keyOf P k key = some kl) (c : Bool) (hat : D.atKey kl (.lit (.bool false)) = .lit (.bool c))
  (hK : wpListIn F nF P ops Q rest (a.put o.dst (.bool c)) w) :
  wpListIn F nF P ops Q (o :: rest) a w := by
 refine wpListIn_plain hg fun K' hK' => ?_
 have hrun := lookup_bool hown K ht he hz hkey hat
 unfold Oper.wpIn
 refine ⟨by simp [Oper.about, hop], ?_⟩
 rw [Oper.semAt_plain F _ _ (by rw [hop]; intro c hc'; cases hc')]
 simp [execOp, hop, hm, hx, hrun, Result.andThen]
 exact hK' _ _ hK

theorem list_cases {α : Type} (l : List α) : l = [] ∨ ∃ i x, l = i ++ [x] := by
 rcases List.eq_nil_or_concat l with h | ⟨i, x, h⟩
 ·exact .inl h
 ·exact .inr ⟨i, x, by simpa using h⟩
theorem keyI : Keyed Try.prog 3 := int_keyed Try.underlying3
theorem zeroBool (w : World) : (zeroValue 4).run Try.prog w = .ok (.bool false) w := by kernel_rfl
/-- The map behind some numbers. -/
def idD (l : List Int) : DataW Unit := setOf (.lit (.bool true)) (l.map (Lit.int .i64))
theorem idD_snoc (l : List Int) (n : Int) : idD (l ++ [n]) = (idD l).put (.int .i64 n) (.lit (.bool true)) := by
 unfold idD
 rw [List.map_append, List.map_cons, List.map_nil, setOf_snoc]
theorem idD_map (l : List Int) : IsMap (idD l) := (tidy_setOf _ _ (fun x hx => by
 obtain ⟨t, _, rfl⟩ := List.mem_map.1 hx
 exact trivial)).isMap
theorem id_at : ∀ (n : Nat) (l : List Int), l.length = n → ∀ x, (idD l).atKey (.int .i64 x) (.lit (.bool false)) = .lit (.bool (decide (x ∈ l)))
 | 0, l, hn, x => by
  obtain rfl := List.eq_nil_of_length_eq_zero hn
  simp [idD, setOf, DataW.atKey]
 | n + 1, l, hn, x => by
  rcases list_cases l with rfl | ⟨l, y, rfl⟩
  ·cases hn
  ·rw [idD_snoc]
   by_cases e : x = y
   ·subst e
    rw [atKey_put_same (idD_map l) (show WideAt.IsKeyLit (.int .i64 x) from trivial)]
    simp
   ·rw [atKey_put_other (by simp [e]), id_at n l (by simpa using hn) x]
    simp [e]
theorem ownsMap_grown {H : Type} {P : Program} {k : TypeId} {R : Value → Option (DataW H × List MemPlace)} {w w' : World} {b n : Nat} {D : DataW H} {bs : List Nat} (h : w.ownsMap P k R b n D) (hg : GrownL bs w w') (hn : b ∉ bs) : w'.ownsMap P k R b n D := by
 obtain ⟨es, clock, h1, h2⟩ := h
 exact ⟨es, clock, (hg.block b (Array.getElem?_eq_some_iff.1 h1).1 hn).trans h1, h2⟩
end Go.Proofs.Ytkoacclbempmdaa
