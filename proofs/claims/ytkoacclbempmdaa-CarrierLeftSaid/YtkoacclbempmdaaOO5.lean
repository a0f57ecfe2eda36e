/- A loop over all outlets with their places, whose iterator claims no blocks. -/
import Derived.Test.YtkoacclbempmdaaGM
namespace Go.Proofs.Ytkoacclbempmdaa
open Go.RowKit
attribute [local go_sem] Oper.semAt_some

/-- What is left when an iterator without claims has returned. -/
def SeqPostP {α : Type} (S Sp : List α → Prop) (J Jx : List α → World → Prop) (e : Ending) (W' : World) : Prop :=
 (∃ v, e = .returned v) ∧ ((∃ xs, S xs ∧ J xs W') ∨ (∃ pre, Sp pre ∧ Jx pre W'))
def YieldPostP {α : Type} (J Jx : List α → World → Prop) (p : List α) (W1 : World) (e : Ending) (W' : World) : Prop :=
 ((e = .returned (.bool true) ∧ J p W') ∨ (e = .returned (.bool false) ∧ Jx p W')) ∧ Keeps [] W1 W'
def SeqP {α : Type} (P : Program) (g : Nat) (lb : Array Value) (encs : α → Array Value) (S Sp : List α → Prop) (W0 : World) (K : World → Prop) : Prop :=
 ∀ (l : Nat) (J Jx : List α → World → Prop) (W : World), Below W0.heap.size W0 W →
  (∀ s W1, J s W1 → K W1) → J [] W →
  (∀ s W1 W2, J s W1 → GrownL [] W1 W2 → J s W2) →
  (∀ s W1 W2, Jx s W1 → GrownL [] W1 W2 → Jx s W2) →
  (∀ pre x W1, J pre W1 → Sp (pre ++ [x]) → YieldAt Fence.wide 2 P l (encs x) W1 (YieldPostP J Jx (pre ++ [x]) W1)) →
  Calls P g (#[.func (.yield l) #[] #[]] ++ lb) W (SeqPostP S Sp J Jx)
/-- How the body of a round may be left. -/
def postP {α : Type} (B : List Nat) (I : List α → World → Prop) (Ix : Code → List α → World → Prop) (xs : List α) (W : World) : Exit → Act → World → Prop
 | .normal, _, W' => Keeps B W W' ∧ I xs W'
 | .ret, _, W' => Keeps B W W' ∧ Ix .ret xs W'
 | .exit id, _, W' => Keeps B W W' ∧ Ix (.exit id) xs W'
 | .goto t, _, W' => Keeps B W W' ∧ Ix (.goto t) xs W'
 | .panic _, _, _ => False
 | .outgrown, _, _ => False

set_option maxHeartbeats 1000000 in
theorem wpIn_rangeP {α : Type} {P : Program} {n : Nat} {g : Operand} {ps : Array Tmp} {assign body : Code} {Q : Exit → Act → World → Prop} {a : Act} {w : World}
  {gf : Nat} {lb : Array Value} (hg : a.eval g = .func (.func gf) #[] lb) (eg : ∀ args w, (callFunc gf args).run P w = .ok (.enter gf args) w)
  {encs : α → Array Value} {S Sp : List α → Prop} {W0 : World} {K : World → Prop} (hseq : SeqP P gf lb encs S Sp W0 K) (hb0 : Below W0.heap.size W0 w) (hps : ∀ x, (encs x).size = ps.size)
  (I : List α → World → Prop) (Ix : Code → List α → World → Prop) (hK : ∀ s W, I s W → K W)
  (h0 : ∀ W', Below w.heap.size w W' → w.heap.size + 2 ≤ W'.heap.size → I [] W')
  (hI : ∀ s W1 W2, I s W1 → GrownL [w.heap.size, w.heap.size + 1] W1 W2 → I s W2)
  (hIx : ∀ c s W1 W2, Ix c s W1 → GrownL [w.heap.size, w.heap.size + 1] W1 W2 → Ix c s W2)
  (hround : ∀ pre x W, I pre W → w.heap.size + 2 ≤ W.heap.size → Sp (pre ++ [x]) →
   assign.wpIn (Fence.wide.inRound (w.heap.size + 1)) 2 P (Exit.then (fun a₁ W₁ => Keeps [w.heap.size, w.heap.size + 1] W W₁ ∧
    ∀ W₂, GrownL [w.heap.size + 1] W₁ W₂ → HasLoop (w.heap.size + 1) W₂ → body.wpIn (Fence.wide.inRound (w.heap.size + 1)) 2 P (postP [w.heap.size, w.heap.size + 1] I Ix (pre ++ [x]) W₂) a₁ W₂) (fun _ _ _ => False))
    { tmps := (ps.zip (encs x)).foldl (fun t (p, v) => t.setIfInBounds p v) a.tmps, defers := [] } W)
  (hdone : ∀ xs W, S xs → I xs W → W.heap[w.heap.size]? = some (.deferred (some [])) → Q .normal { a with defers := { target := .collected w.heap.size, args := #[] } :: a.defers } W)
  (hstop : ∀ c pre W, Sp pre → Ix c pre W → W.heap[w.heap.size]? = some (.deferred (some [])) → c.wpIn Fence.wide n P Q { a with defers := { target := .collected w.heap.size, args := #[] } :: a.defers } W) :
  (Code.rangeFunc g ps assign body).wpIn Fence.wide n P Q a w := by
 refine wpIn_rangeFunc ?_
 intro fn hfn
 rw [show Fence.wide.round = none from rfl]
 obtain ⟨rec, hrec⟩ : ∃ rec : LoopState → Option Code → Loop, rec = fun st pe => { state := st, pending := pe, fn, tmps := a.tmps, params := ps, assign, body, defers := w.heap.size } := ⟨_, rfl⟩
 obtain ⟨W1, hW1⟩ : ∃ W1, (w.alloc (.deferred (some []))).alloc (.loop (rec .ready none)) = W1 := ⟨_, rfl⟩
 have hL1 : W1.heap[w.heap.size + 1]? = some (.loop (rec .ready none)) := by
  rw [← hW1]; have := World.alloc_heap_new (w.alloc (.deferred (some []))) (.loop (rec .ready none)); rwa [World.size_alloc] at this
 have hK1 : W1.heap[w.heap.size]? = some (.deferred (some [])) := by
  rw [← hW1]; exact (Below.heap_alloc _ _ _ (by simp)).trans (World.alloc_heap_new w _)
 have hS1 : W1.heap.size = w.heap.size + 2 := by rw [← hW1]; simp
 have hbw : Below w.heap.size w W1 := by rw [← hW1]; exact ((Below.refl _ w).alloc (Nat.le_refl _) _).alloc (by simp) _
 have hb1 : Below W0.heap.size W0 W1 := hb0.trans (hbw.mono hb0.size)
 refine ⟨w.heap.size + 1, [{ target := .collected w.heap.size, args := #[] }], W1, { target := .fn (.func gf) lb, args := #[.func (.yield (w.heap.size + 1)) #[] #[]] }, W1, gf,
  #[.func (.yield (w.heap.size + 1)) #[] #[]] ++ lb, W1, ?_, ?_, ?_, ?_, fun h => (by cases h), ?_⟩
 ·rw [← hW1, hrec]; exact run_enterLoop_outer _ _ _ _ _
 ·simp only [resolve, hg]
  simp [go_sem]
 ·intro f' _; exact trivial
 ·simp [invoke, go_sem, eg]
 ·refine callsIn_wide.2 ?_
  refine (hseq (w.heap.size + 1)
   (fun pre W => I pre W ∧ W.heap[w.heap.size + 1]? = some (.loop (rec .ready none)) ∧ W.heap[w.heap.size]? = some (.deferred (some [])))
   (fun pre W => ∃ c, Ix c pre W ∧ W.heap[w.heap.size + 1]? = some (.loop (rec .done (some c))) ∧ W.heap[w.heap.size]? = some (.deferred (some [])))
   W1 hb1 (fun s W h => hK s W h.1) ?_ ?_ ?_ ?_).mono ?_
  ·exact ⟨h0 W1 hbw (by omega), hL1, hK1⟩
  ·rintro s X Y ⟨hi, hl, hk⟩ hg'
   have hl' := (Array.getElem?_eq_some_iff.1 hl).1
   have hk' := (Array.getElem?_eq_some_iff.1 hk).1
   exact ⟨hI s X Y hi (hg'.mono (fun b hb => by cases hb)), (hg'.block _ hl' (by simp)).trans hl, (hg'.block _ hk' (by simp)).trans hk⟩
  ·rintro s X Y ⟨c, hi, hl, hk⟩ hg'
   have hl' := (Array.getElem?_eq_some_iff.1 hl).1
   have hk' := (Array.getElem?_eq_some_iff.1 hk).1
   exact ⟨c, hIx c s X Y hi (hg'.mono (fun b hb => by cases hb)), (hg'.block _ hl' (by simp)).trans hl, (hg'.block _ hk' (by simp)).trans hk⟩
  ·-- one round
   rintro pre x W ⟨hi, hl, hk⟩ hsp
   have hlt : w.heap.size + 1 < W.heap.size := (Array.getElem?_eq_some_iff.1 hl).1
   have hy := run_yield (P := P) (args := encs x) hl (by rw [hrec]; exact hps x)
   rw [hrec] at hy
   refine ⟨fn, _, assign, body, hy, roundIn_of_wpIn trivial (wpIn_mono (hround pre x W hi (by omega) hsp) ?_)⟩
   clear hy
   rintro e a₁ Wa hp
   cases e with
   | normal =>
    obtain ⟨hka, hb⟩ := hp
    have hla := hka.obj hl (by simp)
    have hkka := hka.obj hk (by simp)
    have hlta : w.heap.size + 1 < Wa.heap.size := (Array.getElem?_eq_some_iff.1 hla).1
    refine ⟨_, run_beginRound hla (by rw [hrec]), ?_⟩
    have hl2 : (Wa.putObj (w.heap.size + 1) (.loop { rec .ready none with state := .busy })).heap[w.heap.size + 1]? = some (.loop { rec .ready none with state := .busy }) := World.putObj_heap_same hlta
    have hk2 : (Wa.putObj (w.heap.size + 1) (.loop { rec .ready none with state := .busy })).heap[w.heap.size]? = some (.deferred (some [])) := (World.putObj_heap_other (by omega)).trans hkka
    have hg2 : GrownL [w.heap.size + 1] Wa (Wa.putObj (w.heap.size + 1) (.loop { rec .ready none with state := .busy })) := GrownL.putObj _ _ _ (by simp)
    refine wpIn_mono (hb _ hg2 ⟨_, hl2⟩) ?_
    have hkeepO : ∀ (A B : World), GrownL [w.heap.size + 1] A B → Keeps [] A B := fun A B h => Keeps.of_grown h (fun o ho hm => by cases ho)
    have fin : ∀ (jump : Option Code) (W3 : World), Keeps [w.heap.size, w.heap.size + 1] (Wa.putObj (w.heap.size + 1) (.loop { rec .ready none with state := .busy })) W3 →
      (Instr.endRound (w.heap.size + 1) jump).run P W3 = .ok (.bool jump.isNone) (W3.putObj (w.heap.size + 1) (.loop (rec (if jump.isNone then .ready else .done) jump))) ∧
      W3.heap[w.heap.size + 1]? = some (.loop { rec .ready none with state := .busy }) ∧
      (W3.putObj (w.heap.size + 1) (.loop (rec (if jump.isNone then .ready else .done) jump))).heap[w.heap.size + 1]? = some (.loop (rec (if jump.isNone then .ready else .done) jump)) ∧
      (W3.putObj (w.heap.size + 1) (.loop (rec (if jump.isNone then .ready else .done) jump))).heap[w.heap.size]? = some (.deferred (some [])) ∧
      Keeps [] W (W3.putObj (w.heap.size + 1) (.loop (rec (if jump.isNone then .ready else .done) jump))) := fun jump W3 hk3 => by
     have hl3 := hk3.obj hl2 (by simp)
     have := run_endRound (P := P) jump hl3
     rw [hrec] at this ⊢
     refine ⟨this, by rw [hrec] at hl3; exact hl3, World.putObj_heap_same (Array.getElem?_eq_some_iff.1 hl3).1, (World.putObj_heap_other (by omega)).trans (hk3.obj hk2 (by simp)), ?_⟩
     exact ((hka.mono (fun o ho => by cases ho)).trans (hkeepO _ _ hg2)).trans ((hk3.mono (fun o ho => by cases ho)).trans (hkeepO _ _ (GrownL.putObj _ _ _ (by simp))))
    have up : ∀ (W3 : World) (o : Obj), GrownL [w.heap.size, w.heap.size + 1] W3 (W3.putObj (w.heap.size + 1) o) := fun W3 o => GrownL.putObj _ _ _ (by simp)
    rintro e a3 W3 hp
    cases e with
    | normal =>
     obtain ⟨hk3, hi3⟩ := hp
     obtain ⟨hr, hl3, hl4, hk4, hkk⟩ := fin none W3 hk3
     exact ⟨_, _, hr, .inl ⟨rfl, ⟨hI _ _ _ hi3 (up _ _), hl4, hk4⟩⟩, hkk⟩
    | ret =>
     obtain ⟨hk3, hi3⟩ := hp
     obtain ⟨hr, hl3, hl4, hk4, hkk⟩ := fin (some .ret) W3 hk3
     exact ⟨_, _, hr, .inr ⟨rfl, .ret, hIx _ _ _ _ hi3 (up _ _), hl4, hk4⟩, hkk⟩
    | exit id =>
     obtain ⟨hk3, hi3⟩ := hp
     obtain ⟨hr, hl3, hl4, hk4, hkk⟩ := fin (some (.exit id)) W3 hk3
     exact ⟨_, _, hr, .inr ⟨rfl, .exit id, hIx _ _ _ _ hi3 (up _ _), hl4, hk4⟩, hkk⟩
    | goto t =>
     obtain ⟨hk3, hi3⟩ := hp
     obtain ⟨hr, hl3, hl4, hk4, hkk⟩ := fin (some (.goto t)) W3 hk3
     exact ⟨_, _, hr, .inr ⟨rfl, .goto t, hIx _ _ _ _ hi3 (up _ _), hl4, hk4⟩, hkk⟩
    | panic ch => exact hp.elim
    | outgrown => exact hp.elim
   | exit id => exact hp.elim
   | goto t => exact hp.elim
   | ret => exact hp.elim
   | panic ch => exact hp.elim
   | outgrown => exact hp.elim
  ·-- behind the iterator
   have up : ∀ (W3 : World) (o : Obj), GrownL [w.heap.size, w.heap.size + 1] W3 (W3.putObj (w.heap.size + 1) o) := fun W3 o => GrownL.putObj _ _ _ (by simp)
   rintro e W2 ⟨⟨v, rfl⟩, (⟨xs, hS, hi, hl, hk⟩ | ⟨pre, hSp, c, hi, hl, hk⟩)⟩
   ·exact ⟨none, _, by have := run_endLoop (P := P) hl (by rw [hrec]; simp); rw [hrec] at this; exact this, hdone xs _ hS (hI _ _ _ hi (up _ _)) ((World.putObj_heap_other (by omega)).trans hk)⟩
   ·exact ⟨some c, _, by have := run_endLoop (P := P) hl (by rw [hrec]; simp); rw [hrec] at this; exact this, hstop c pre _ hSp (hIx c _ _ _ hi (up _ _)) ((World.putObj_heap_other (by omega)).trans hk)⟩


set_option maxHeartbeats 8000000 in
set_option maxRecDepth 1000000 in
theorem placesP_seq (w0 W0 : World) (gw : Nat) (A : Option Addr) (n c : Nat) (ws : Wk) (h : RK w0.heap.size (.slice A n c) ws w0) (ht : total ws ≤ 100000) (hl : ws.length ≤ 100000) :
  SeqP Try.prog 132 #[.pointer (some ⟨gw, 0, none⟩)] encP (AllPl ws) (SomePl ws) W0 (KP w0 gw (.slice A n c)) := by
 intro l J Jx W hW hJK h0 hJ hJx hY
 obtain ⟨A0, c0, e0, n1, hx⟩ := h
 obtain ⟨rfl, rfl, rfl⟩ : A = A0 ∧ n = ws.length ∧ c = c0 := by simpa using e0
 have HX := Lib.hid hx
 have HJ := Lib.hid hJ
 have HK := Lib.hid hJK
 have HJx := Lib.hid hJx
 have HY := Lib.hid hY
 have H0 := Lib.hid h0
 have t0 := (hJK _ _ h0).2
 clear hx e0 hJ hJK hJx hY h0 hW
 show Calls Try.prog 132 #[.func (.yield l) #[] #[], .pointer (some ⟨gw, 0, none⟩)] W _
 refine (callsIn_wide (n := 3)).1 ?_
 refine callsIn_of_wp Try.func132 rfl trivial ?_ rfl
 simp only [Try.ntmps132, List.size_toArray, List.length_cons, List.length_nil, Nat.reduceAdd, Nat.reduceSub, Array.replicate_succ, Array.replicate_zero, List.push_toArray, List.append_toArray, List.nil_append, List.cons_append]
 gi_wp2_with fail
 clear t0
 gi_loopw [3, 11] (fun a u wr => ∃ k : Nat, u = .int .i64 k ∧ k ≤ ws.length ∧ a = .int .i64 (pre ws k) ∧ J ((allP ws).take (pre ws k)) wr) (fun _ u _ => ws.length - (intOf u).toNat)
 case atStart => exact ⟨0, rfl, by omega, by rw [pre_zero]; rfl, by rw [pre_zero]; exact H0.out⟩
 case round =>
  obtain ⟨k, rfl, hk, rfl, hj⟩ := hrel
  have HJJ := Lib.hid hj
  have HB := Lib.hid (HK.out _ _ hj).1
  clear hj H0
  by_cases hkl : k < ws.length
  ·obtain ⟨b, o, rfl, hbB, hcs⟩ := HX.out (by omega)
   have hk0 : (k : Int) < (ws.length : Int) := by omega
   obtain ⟨os, hos⟩ : ∃ os, ws[k]? = some os := ⟨_, List.getElem?_eq_getElem hkl⟩
   obtain ⟨u, hu, hr⟩ := hcs k os hos
   obtain ⟨A1, c1, rfl, n2, hy⟩ := hr
   have HYY := Lib.hid hy
   have HOS := Lib.hid hos
   have d0 := (HB.out.cell (p := ⟨b, o + k, none⟩) hbB).trans hu
   have hp : pre ws (k + 1) ≤ total ws := pre_le ws (k + 1)
   rw [pre_succ hos] at hp
   have HP : Hid (pre ws k + os.length ≤ total ws) := Lib.hid hp
   have HJ1 := Lib.hid (HJ.out _ _ _ HJJ.out (GrownL.of_below ((Below.refl wr.heap.size wr).alloc (Nat.le_refl _) (.cells #[.slice A1 os.length c1] 38))))
   obtain ⟨q, hq⟩ : ∃ q, pre ws k = q := ⟨_, rfl⟩
   have HQ := Lib.hid hq
   rw [hq] at HJ1 ⊢
   have hqb : q + os.length ≤ 100000 := by have := HP.out; omega
   clear hu hos hcs hy hp hq
   gi_wp2_with fail
   clear d0
   gi_loopw [3, 19] (fun a u wi => ∃ (j m : Nat), u = .int .i64 j ∧ j ≤ os.length ∧ a = .int .i64 m ∧ m = q + j ∧ J ((allP ws).take m) wi) (fun _ u _ => os.length - (intOf u).toNat)
   case atStart => exact ⟨0, q, rfl, by omega, rfl, rfl, HJ1.out⟩
   case round =>
    obtain ⟨j, m, rfl, hj, rfl, hm, hjj⟩ := hrel
    have HJJ := Lib.hid hjj
    have HB := Lib.hid (HK.out _ _ hjj).1
    clear hjj HJ1
    by_cases hjl : j < os.length
    ·obtain ⟨b1, o1, rfl, hb1, hc1⟩ := HYY.out (by omega)
     have hj0 : (j : Int) < (os.length : Int) := by omega
     obtain ⟨x, hx⟩ : ∃ x, os[j]? = some x := ⟨_, List.getElem?_eq_getElem hjl⟩
     obtain ⟨a0, a1, a2, -, a3, a4, a5, a6⟩ := hc1 j x hx
     have d0 := (HB.out.cell (p := ⟨b1, _, none⟩) hb1).trans a0
     have d1 := (HB.out.cell (p := ⟨b1, _, none⟩) hb1).trans a1
     have d2 := (HB.out.cell (p := ⟨b1, _, none⟩) hb1).trans a2
     have d3 := (HB.out.cell (p := ⟨b1, _, none⟩) hb1).trans a3
     have d4 := (HB.out.cell (p := ⟨b1, _, none⟩) hb1).trans a4
     have d5 := (HB.out.cell (p := ⟨b1, _, none⟩) hb1).trans a5
     have d6 := (HB.out.cell (p := ⟨b1, _, none⟩) hb1).trans a6
     have hat := allP_get HOS.out hx
     rw [HQ.out, ← hm] at hat
     have HS : Hid (SomePl ws ((allP ws).take m ++ [⟨m, k, j, x⟩])) := Lib.hid ⟨m, by have := (List.getElem?_eq_some_iff.1 hat).1; rwa [allP_len] at this, by rw [take_at hat]⟩
     have HT : Hid ((allP ws).take (m + 1) = (allP ws).take m ++ [⟨m, k, j, x⟩]) := Lib.hid (take_at hat)
     have HJ2 := HJ.out _ _ _ HJJ.out (GrownL.of_below ((Below.refl wr.heap.size wr).alloc (Nat.le_refl _) (.cells #[.int .i64 x.id, .int .i64 x.into, x.pv, .int .i64 x.k0, .int .i64 x.k1, .int .i64 x.s0, .int .i64 x.s1] 42)))
     obtain ⟨fn, tmps, assign, body, hy, hR⟩ := HY.out _ _ _ HJ2 HS.out
     unfold encP at hy
     simp only at hy
     have hmb : m ≤ 100000 := by omega
     have HMQ := Lib.hid hm
     clear hm HJ2 hat a0 a1 a2 a3 a4 a5 a6 hc1 hx
     gi_wp2_with fail
     refine hR.mono ?_
     rintro e W3 ⟨⟨rfl, hJ3⟩ | ⟨rfl, hJx3⟩, -⟩
     ·have HJ3 := Lib.hid hJ3
      clear hJ3 hR hy
      gi_wp2_with fail
      go_roundw
      case rel => exact ⟨j + 1, m + 1, by go_num, by omega, by go_num, by have := HMQ.out; omega, by rw [HT.out]; exact HJ3.out⟩
      case measure => show os.length - ((j : Int) + 1).toNat < os.length - (j : Int).toNat; omega
     ·have HJ3 := Lib.hid hJx3
      clear hJx3 hR hy
      gi_wp2_with fail
      refine bodyPost_ret (results_none rfl _ _ _) rfl ?_
      exact ⟨⟨_, rfl⟩, .inr ⟨_, HS.out, HJ3.out⟩⟩
    ·have hj0 : (os.length : Int) ≤ (j : Int) := by omega
     have HM : Hid (m = pre ws (k + 1)) := Lib.hid (by rw [pre_succ HOS.out, HQ.out]; omega)
     clear hm
     gi_wp2_with fail
     go_roundw
     case rel => exact ⟨k + 1, by go_num, by omega, by rw [HM.out], by rw [← HM.out]; exact HJJ.out⟩
     case measure => show ws.length - ((k : Int) + 1).toNat < ws.length - (k : Int).toNat; omega
  ·have hk0 : (ws.length : Int) ≤ (k : Int) := by omega
   have HE : Hid ((allP ws).take (pre ws k) = allP ws) := Lib.hid (by rw [List.take_of_length_le (by rw [allP_len]; unfold total; exact pre_mono (by omega))])
   rw [HE.out] at HJJ
   gi_wp2_with fail
   go_end0
   exact ⟨⟨_, rfl⟩, .inl ⟨_, rfl, HJJ.out⟩⟩

/-- A place and an outlet, in two blocks. -/
structure PlC (b : Nat) (p : Pl) (W : World) : Prop where
 at_ : W.cell? ⟨b, 0, none⟩ = some (.int .i64 p.at_)
 c : W.cell? ⟨b, 1, none⟩ = some (.int .i64 p.c)
 n : W.cell? ⟨b, 2, none⟩ = some (.int .i64 p.n)
structure OuC (b : Nat) (x : Ou) (W : World) : Prop where
 id : W.cell? ⟨b, 0, none⟩ = some (.int .i64 x.id)
 into : W.cell? ⟨b, 1, none⟩ = some (.int .i64 x.into)
 pv : W.cell? ⟨b, 2, none⟩ = some (.slice x.pa x.ps.length x.pc)
 k0 : W.cell? ⟨b, 3, none⟩ = some (.int .i64 x.k0)
 k1 : W.cell? ⟨b, 4, none⟩ = some (.int .i64 x.k1)
 s0 : W.cell? ⟨b, 5, none⟩ = some (.int .i64 x.s0)
 s1 : W.cell? ⟨b, 6, none⟩ = some (.int .i64 x.s1)
theorem PlC.grown {b : Nat} {p : Pl} {W W' : World} {bs : List Nat} (h : PlC b p W) (hg : GrownL bs W W') (hn : b ∉ bs) : PlC b p W' := ⟨hg.cell h.at_ hn, hg.cell h.c hn, hg.cell h.n hn⟩
theorem OuC.grown {b : Nat} {x : Ou} {W W' : World} {bs : List Nat} (h : OuC b x W) (hg : GrownL bs W W') (hn : b ∉ bs) : OuC b x W' := ⟨hg.cell h.id hn, hg.cell h.into hn, hg.cell h.pv hn, hg.cell h.k0 hn, hg.cell h.k1 hn, hg.cell h.s0 hn, hg.cell h.s1 hn⟩
theorem PlC.below {b : Nat} {p : Pl} {W W' : World} (h : PlC b p W) (hb : Below W.heap.size W W') : PlC b p W' := h.grown (GrownL.of_below (bs := []) hb) (by simp)
theorem OuC.below {b : Nat} {x : Ou} {W W' : World} (h : OuC b x W) (hb : Below W.heap.size W W') : OuC b x W' := h.grown (GrownL.of_below (bs := []) hb) (by simp)
theorem PlC.lt {b : Nat} {p : Pl} {W : World} (h : PlC b p W) : b < W.heap.size := World.block_lt_of_cell? _ _ h.at_
theorem OuC.lt {b : Nat} {x : Ou} {W : World} (h : OuC b x W) : b < W.heap.size := World.block_lt_of_cell? _ _ h.id
abbrev plObj (xa xc xn : Nat) : Obj := .cells #[.int .i64 xa, .int .i64 xc, .int .i64 xn] 133
abbrev ouObj (x : Ou) : Obj := .cells #[.int .i64 x.id, .int .i64 x.into, .slice x.pa x.ps.length x.pc, .int .i64 x.k0, .int .i64 x.k1, .int .i64 x.s0, .int .i64 x.s1] 42
theorem po_cells {W W2 : World} {xa xc xn : Nat} {x : Ou} {b : Nat} (hg : GrownL [b] ((W.alloc (plObj xa xc xn)).alloc (ouObj x)) W2) (hb : b < W.heap.size) : PlC W.heap.size ⟨xa, xc, xn, x⟩ W2 ∧ OuC (W.heap.size + 1) x W2 ∧ GrownL [b] W W2 ∧ W.heap.size + 2 ≤ W2.heap.size := by
 have n0 : W.heap.size ∉ [b] := by simp; omega
 have n1 : W.heap.size + 1 ∉ [b] := by simp; omega
 refine ⟨⟨hg.cell (by simp [go_sem]) n0, hg.cell (by simp [go_sem]) n0, hg.cell (by simp [go_sem]) n0⟩, ⟨hg.cell (by simp [go_sem]) n1, hg.cell (by simp [go_sem]) n1, hg.cell (by simp [go_sem]) n1, hg.cell (by simp [go_sem]) n1, hg.cell (by simp [go_sem]) n1, hg.cell (by simp [go_sem]) n1, hg.cell (by simp [go_sem]) n1⟩, ?_, ?_⟩
 ·exact (GrownL.of_below (((Below.refl _ _).alloc (Nat.le_refl _) _).alloc (by simp) _)).trans hg
 ·have := hg.size; simp at this; omega
theorem p_cells {W W2 : World} {xa xc xn : Nat} {x : Ou} {b : Nat} (hg : GrownL [b] (W.alloc (plObj xa xc xn)) W2) (hb : b < W.heap.size) : PlC W.heap.size ⟨xa, xc, xn, x⟩ W2 ∧ GrownL [b] W W2 ∧ W.heap.size + 1 ≤ W2.heap.size := by
 have n0 : W.heap.size ∉ [b] := by simp; omega
 refine ⟨⟨hg.cell (by simp [go_sem]) n0, hg.cell (by simp [go_sem]) n0, hg.cell (by simp [go_sem]) n0⟩, ?_, ?_⟩
 ·exact (GrownL.of_below ((Below.refl _ _).alloc (Nat.le_refl _) _)).trans hg
 ·have := hg.size; simp at this; omega
theorem o_cells {W W2 : World} {x : Ou} {b : Nat} (hg : GrownL [b] (W.alloc (ouObj x)) W2) (hb : b < W.heap.size) : OuC W.heap.size x W2 ∧ GrownL [b] W W2 ∧ W.heap.size + 1 ≤ W2.heap.size := by
 have n0 : W.heap.size ∉ [b] := by simp; omega
 refine ⟨⟨hg.cell (by simp [go_sem]) n0, hg.cell (by simp [go_sem]) n0, hg.cell (by simp [go_sem]) n0, hg.cell (by simp [go_sem]) n0, hg.cell (by simp [go_sem]) n0, hg.cell (by simp [go_sem]) n0, hg.cell (by simp [go_sem]) n0⟩, ?_, ?_⟩
 ·exact (GrownL.of_below ((Below.refl _ _).alloc (Nat.le_refl _) _)).trans hg
 ·have := hg.size; simp at this; omega
/-- Where a next one stands. -/
theorem sp_next {ws : Wk} {s : List Pl} {x : Pl} (h : SomePl ws (s ++ [x])) : ∃ n, (allP ws)[n]? = some x ∧ s = (allP ws).take n ∧ n = s.length ∧ n < total ws := by
 obtain ⟨h1, h2⟩ := prefix_of h
 exact ⟨s.length, h1, h2, rfl, lt_total h1⟩
end Go.Proofs.Ytkoacclbempmdaa
