/- A range over a function whose iterator keeps cells of its own: what iterator and loop owe each other, and the law of the statement. -/
import Derived.Test.YtkoacclbempmdaaGA
import Derived.RangeFuncNested
import Derived.RangeFuncLeaves
import Derived.RangeFuncCalls
namespace Go.Proofs.Ytkoacclbempmdaa
open Go.RowKit

/-- O' are blocks of O, and blocks that were made between W1 and W2. -/
def Claims (O O' : List Nat) (W1 W2 : World) : Prop := ∀ o ∈ O', o ∈ O ∨ (W1.heap.size ≤ o ∧ o < W2.heap.size)
theorem Claims.refl (O : List Nat) (W1 W2 : World) : Claims O O W1 W2 := fun _ h => .inl h
theorem Claims.nil (O : List Nat) (W1 W2 : World) : Claims O [] W1 W2 := fun _ h => by cases h
theorem Claims.one {O : List Nat} {W1 W2 : World} {b : Nat} (h1 : W1.heap.size ≤ b) (h2 : b < W2.heap.size) : Claims O (b :: O) W1 W2 := fun o h => by
 rcases List.mem_cons.1 h with rfl | h
 ·exact .inr ⟨h1, h2⟩
 ·exact .inl h

/-- What is left when the iterator has returned. -/
def SeqPost {α : Type} (S Sp : List α → Prop) (J Jx : List Nat → List α → World → Prop) (e : Ending) (W' : World) : Prop :=
 (∃ v, e = .returned v) ∧ ((∃ O xs, S xs ∧ J O xs W') ∨ (∃ O pre, Sp pre ∧ Jx O pre W'))
/-- The contract of an iterator value that may keep cells of its own, in blocks O that it makes. -/
def SeqO {α : Type} (P : Program) (g : Nat) (lb : Array Value) (encs : α → Array Value) (S Sp : List α → Prop) (W0 : World) : Prop :=
 ∀ (l : Nat) (J Jx : List Nat → List α → World → Prop) (W : World), Below W0.heap.size W0 W →
  J [] [] W →
  (∀ O O' s W1 W2, J O s W1 → GrownL O W1 W2 → Claims O O' W1 W2 → J O' s W2) →
  (∀ O s W1 W2, Jx O s W1 → GrownL O W1 W2 → Jx O s W2) →
  (∀ O pre x W1, J O pre W1 → Sp (pre ++ [x]) → YieldAt Fence.wide 2 P l (encs x) W1 fun e W' =>
   (e = .returned (.bool true) ∧ J O (pre ++ [x]) W' ∧ Keeps O W1 W') ∨ (e = .returned (.bool false) ∧ Jx O (pre ++ [x]) W')) →
  Calls P g (#[.func (.yield l) #[] #[]] ++ lb) W (SeqPost S Sp J Jx)

/-- How the body of a round may be left. B: the blocks of the loop's own book-keeping. -/
def postO {α : Type} (B : List Nat) (I : List Nat → List α → World → Prop) (Ix : Code → List Nat → List α → World → Prop) (O : List Nat) (xs : List α) (W : World) : Exit → Act → World → Prop
 | .normal, _, W' => Keeps (B ++ O) W W' ∧ I O xs W'
 | .ret, _, W' => Keeps B W W' ∧ Ix .ret O xs W'
 | .exit id, _, W' => Keeps B W W' ∧ Ix (.exit id) O xs W'
 | .goto t, _, W' => Keeps B W W' ∧ Ix (.goto t) O xs W'
 | .panic _, _, _ => False
 | .outgrown, _, _ => False

set_option maxHeartbeats 1000000 in
theorem wpIn_rangeO {α : Type} {P : Program} {n : Nat} {g : Operand} {ps : Array Tmp} {assign body : Code} {Q : Exit → Act → World → Prop} {a : Act} {w : World}
  {gf : Nat} {lb : Array Value} (hg : a.eval g = .func (.func gf) #[] lb) (eg : ∀ args w, (callFunc gf args).run P w = .ok (.enter gf args) w)
  {encs : α → Array Value} {S Sp : List α → Prop} {W0 : World} (hseq : SeqO P gf lb encs S Sp W0) (hb0 : Below W0.heap.size W0 w) (hps : ∀ x, (encs x).size = ps.size)
  (I : List Nat → List α → World → Prop) (Ix : Code → List Nat → List α → World → Prop)
  (h0 : ∀ W', Below w.heap.size w W' → w.heap.size + 2 ≤ W'.heap.size → I [] [] W')
  (hI : ∀ O O' s W1 W2, (∀ o ∈ O, w.heap.size + 2 ≤ o) → I O s W1 → GrownL (w.heap.size :: (w.heap.size + 1) :: O) W1 W2 → Claims O O' W1 W2 → I O' s W2)
  (hIx : ∀ c O s W1 W2, (∀ o ∈ O, w.heap.size + 2 ≤ o) → Ix c O s W1 → GrownL (w.heap.size :: (w.heap.size + 1) :: O) W1 W2 → Ix c O s W2)
  (hround : ∀ O pre x W, (∀ o ∈ O, w.heap.size + 2 ≤ o) → I O pre W → w.heap.size + 2 ≤ W.heap.size → Sp (pre ++ [x]) →
   assign.wpIn (Fence.wide.inRound (w.heap.size + 1)) 2 P (Exit.then (fun a₁ W₁ => Keeps (w.heap.size :: (w.heap.size + 1) :: O) W W₁ ∧
    ∀ W₂, GrownL [w.heap.size + 1] W₁ W₂ → body.wpIn (Fence.wide.inRound (w.heap.size + 1)) 2 P (postO [w.heap.size, w.heap.size + 1] I Ix O (pre ++ [x]) W₂) a₁ W₂) (fun _ _ _ => False))
    { tmps := (ps.zip (encs x)).foldl (fun t (p, v) => t.setIfInBounds p v) a.tmps, defers := [] } W)
  (hdone : ∀ O xs W, (∀ o ∈ O, w.heap.size + 2 ≤ o) → S xs → I O xs W → W.heap[w.heap.size]? = some (.deferred (some [])) → Q .normal { a with defers := { target := .collected w.heap.size, args := #[] } :: a.defers } W)
  (hstop : ∀ c O pre W, (∀ o ∈ O, w.heap.size + 2 ≤ o) → Sp pre → Ix c O pre W → W.heap[w.heap.size]? = some (.deferred (some [])) → c.wpIn Fence.wide n P Q { a with defers := { target := .collected w.heap.size, args := #[] } :: a.defers } W) :
  (Code.rangeFunc g ps assign body).wpIn Fence.wide n P Q a w := by
 refine wpIn_rangeFunc ?_
 intro fn hfn
 rw [show Fence.wide.round = none from rfl]
 obtain ⟨rec, hrec⟩ : ∃ rec : LoopState → Option Code → Loop, rec = fun st pe => { state := st, pending := pe, fn, tmps := a.tmps, params := ps, assign, body, defers := w.heap.size } := ⟨_, rfl⟩
 obtain ⟨W1, hW1⟩ : ∃ W1, (w.alloc (.deferred (some []))).alloc (.loop (rec .ready none)) = W1 := ⟨_, rfl⟩
 have hL1 : W1.heap[w.heap.size + 1]? = some (.loop (rec .ready none)) := by
  rw [← hW1]; have := World.alloc_heap_new (w.alloc (.deferred (some []))) (.loop (rec .ready none)); rwa [World.size_alloc] at this
 have hK1 : W1.heap[w.heap.size]? = some (.deferred (some [])) := by
  rw [← hW1]; exact (Below.heap_alloc _ _ _ (by simp)).trans (World.alloc_heap_new w _)
 have hS1 : W1.heap.size = w.heap.size + 2 := by rw [← hW1]; simp
 have hbw : Below w.heap.size w W1 := by rw [← hW1]; exact ((Below.refl _ w).alloc (Nat.le_refl _) _).alloc (by simp) _
 have hb1 : Below W0.heap.size W0 W1 := hb0.trans (hbw.mono hb0.size)
 refine ⟨w.heap.size + 1, [{ target := .collected w.heap.size, args := #[] }], W1, { target := .fn (.func gf) lb, args := #[.func (.yield (w.heap.size + 1)) #[] #[]] }, W1, gf,
  #[.func (.yield (w.heap.size + 1)) #[] #[]] ++ lb, W1, ?_, ?_, ?_, ?_, fun h => (by cases h), ?_⟩
 ·rw [← hW1, hrec]; exact run_enterLoop_outer _ _ _ _ _
 ·simp only [resolve, hg]
  simp [go_sem]
 ·intro f' _; exact trivial
 ·simp [invoke, go_sem, eg]
 ·refine callsIn_wide.2 ?_
  refine (hseq (w.heap.size + 1)
   (fun O pre W => (∀ o ∈ O, w.heap.size + 2 ≤ o) ∧ I O pre W ∧ W.heap[w.heap.size + 1]? = some (.loop (rec .ready none)) ∧ W.heap[w.heap.size]? = some (.deferred (some [])))
   (fun O pre W => (∀ o ∈ O, w.heap.size + 2 ≤ o) ∧ ∃ c, Ix c O pre W ∧ W.heap[w.heap.size + 1]? = some (.loop (rec .done (some c))) ∧ W.heap[w.heap.size]? = some (.deferred (some [])))
   W1 hb1 ?_ ?_ ?_ ?_).mono ?_
  ·exact ⟨(fun o ho => by cases ho), h0 W1 hbw (by omega), hL1, hK1⟩
  ·rintro O O' s X Y ⟨hO, hi, hl, hk⟩ hg' hcl
   have hl' := (Array.getElem?_eq_some_iff.1 hl).1
   have hk' := (Array.getElem?_eq_some_iff.1 hk).1
   exact ⟨(fun o ho => by rcases hcl o ho with h | h; exact hO o h; omega), hI O O' s X Y hO hi (hg'.mono (fun b hb => by simp [hb])) hcl, (hg'.block _ hl' (fun hm => by have := hO _ hm; omega)).trans hl, (hg'.block _ hk' (fun hm => by have := hO _ hm; omega)).trans hk⟩
  ·rintro O s X Y ⟨hO, c, hi, hl, hk⟩ hg'
   have hl' := (Array.getElem?_eq_some_iff.1 hl).1
   have hk' := (Array.getElem?_eq_some_iff.1 hk).1
   exact ⟨hO, c, hIx c O s X Y hO hi (hg'.mono (fun b hb => by simp [hb])), (hg'.block _ hl' (fun hm => by have := hO _ hm; omega)).trans hl, (hg'.block _ hk' (fun hm => by have := hO _ hm; omega)).trans hk⟩
  ·-- one round
   rintro O pre x W ⟨hO, hi, hl, hk⟩ hsp
   have hlt : w.heap.size + 1 < W.heap.size := (Array.getElem?_eq_some_iff.1 hl).1
   have hy := run_yield (P := P) (args := encs x) hl (by rw [hrec]; exact hps x)
   rw [hrec] at hy
   refine ⟨fn, _, assign, body, hy, roundIn_of_wpIn trivial (wpIn_mono (hround O pre x W hO hi (by omega) hsp) ?_)⟩
   clear hy
   rintro e a₁ Wa hp
   cases e with
   | normal =>
    obtain ⟨hka, hb⟩ := hp
    have hla := hka.obj hl (by simp)
    have hkka := hka.obj hk (by simp)
    have hlta : w.heap.size + 1 < Wa.heap.size := (Array.getElem?_eq_some_iff.1 hla).1
    refine ⟨_, run_beginRound hla (by rw [hrec]), ?_⟩
    have hl2 : (Wa.putObj (w.heap.size + 1) (.loop { rec .ready none with state := .busy })).heap[w.heap.size + 1]? = some (.loop { rec .ready none with state := .busy }) := World.putObj_heap_same hlta
    have hk2 : (Wa.putObj (w.heap.size + 1) (.loop { rec .ready none with state := .busy })).heap[w.heap.size]? = some (.deferred (some [])) := (World.putObj_heap_other (by omega)).trans hkka
    have hg2 : GrownL [w.heap.size + 1] Wa (Wa.putObj (w.heap.size + 1) (.loop { rec .ready none with state := .busy })) := GrownL.putObj _ _ _ (by simp)
    refine wpIn_mono (hb _ hg2) ?_
    have hkeepO : ∀ (A B : World), GrownL [w.heap.size + 1] A B → Keeps O A B := fun A B h => Keeps.of_grown h (fun o ho hm => by simp at hm; have := hO o ho; omega)
    have fin : ∀ (jump : Option Code) (W3 : World), Keeps [w.heap.size, w.heap.size + 1] (Wa.putObj (w.heap.size + 1) (.loop { rec .ready none with state := .busy })) W3 →
      (Instr.endRound (w.heap.size + 1) jump).run P W3 = .ok (.bool jump.isNone) (W3.putObj (w.heap.size + 1) (.loop (rec (if jump.isNone then .ready else .done) jump))) ∧
      W3.heap[w.heap.size + 1]? = some (.loop { rec .ready none with state := .busy }) ∧
      (W3.putObj (w.heap.size + 1) (.loop (rec (if jump.isNone then .ready else .done) jump))).heap[w.heap.size + 1]? = some (.loop (rec (if jump.isNone then .ready else .done) jump)) ∧
      (W3.putObj (w.heap.size + 1) (.loop (rec (if jump.isNone then .ready else .done) jump))).heap[w.heap.size]? = some (.deferred (some [])) := fun jump W3 hk3 => by
     have hl3 := hk3.obj hl2 (by simp)
     have := run_endRound (P := P) jump hl3
     rw [hrec] at this ⊢
     exact ⟨this, by rw [hrec] at hl3; exact hl3, World.putObj_heap_same (Array.getElem?_eq_some_iff.1 hl3).1, (World.putObj_heap_other (by omega)).trans (hk3.obj hk2 (by simp))⟩
    have up : ∀ (W3 : World) (o : Obj), GrownL (w.heap.size :: (w.heap.size + 1) :: O) W3 (W3.putObj (w.heap.size + 1) o) := fun W3 o => GrownL.putObj _ _ _ (by simp)
    rintro e a3 W3 hp
    cases e with
    | normal =>
     obtain ⟨hk3, hi3⟩ := hp
     obtain ⟨hr, hl3, hl4, hk4⟩ := fin none W3 (hk3.mono (fun o ho => by simp at ho ⊢; rcases ho with h | h <;> simp [h]))
     refine ⟨_, _, hr, .inl ⟨rfl, ⟨hO, hI O O _ _ _ hO hi3 (up _ _) (Claims.refl _ _ _), hl4, hk4⟩, ?_⟩⟩
     exact ((hka.mono (fun o ho => by simp [ho])).trans (hkeepO _ _ hg2)).trans ((hk3.mono (fun o ho => by simp [ho])).trans (hkeepO _ _ (GrownL.putObj _ _ _ (by simp))))
    | ret =>
     obtain ⟨hk3, hi3⟩ := hp
     obtain ⟨hr, hl3, hl4, hk4⟩ := fin (some .ret) W3 hk3
     exact ⟨_, _, hr, .inr ⟨rfl, hO, .ret, hIx _ O _ _ _ hO hi3 (up _ _), hl4, hk4⟩⟩
    | exit id =>
     obtain ⟨hk3, hi3⟩ := hp
     obtain ⟨hr, hl3, hl4, hk4⟩ := fin (some (.exit id)) W3 hk3
     exact ⟨_, _, hr, .inr ⟨rfl, hO, .exit id, hIx _ O _ _ _ hO hi3 (up _ _), hl4, hk4⟩⟩
    | goto t =>
     obtain ⟨hk3, hi3⟩ := hp
     obtain ⟨hr, hl3, hl4, hk4⟩ := fin (some (.goto t)) W3 hk3
     exact ⟨_, _, hr, .inr ⟨rfl, hO, .goto t, hIx _ O _ _ _ hO hi3 (up _ _), hl4, hk4⟩⟩
    | panic ch => exact hp.elim
    | outgrown => exact hp.elim
   | exit id => exact hp.elim
   | goto t => exact hp.elim
   | ret => exact hp.elim
   | panic ch => exact hp.elim
   | outgrown => exact hp.elim
  ·-- behind the iterator
   have up : ∀ (O : List Nat) (W3 : World) (o : Obj), GrownL (w.heap.size :: (w.heap.size + 1) :: O) W3 (W3.putObj (w.heap.size + 1) o) := fun O W3 o => GrownL.putObj _ _ _ (by simp)
   rintro e W2 ⟨⟨v, rfl⟩, (⟨O, xs, hS, hO, hi, hl, hk⟩ | ⟨O, pre, hSp, hO, c, hi, hl, hk⟩)⟩
   ·exact ⟨none, _, by have := run_endLoop (P := P) hl (by rw [hrec]; simp); rw [hrec] at this; exact this, hdone O xs _ hO hS (hI O O _ _ _ hO hi (up _ _ _) (Claims.refl _ _ _)) ((World.putObj_heap_other (by omega)).trans hk)⟩
   ·exact ⟨some c, _, by have := run_endLoop (P := P) hl (by rw [hrec]; simp); rw [hrec] at this; exact this, hstop c O pre _ hO hSp (hIx c O _ _ _ hO hi (up _ _ _)) ((World.putObj_heap_other (by omega)).trans hk)⟩
end Go.Proofs.Ytkoacclbempmdaa

/- As R1, for an iterator that may be handed blocks of its own (O0), that reads cells behind its yields (K), and that says what it leaves (D); also for a loop within a round. -/
namespace Go.Proofs.Ytkoacclbempmdaa
open Go.RowKit

/-- What is left when the iterator has returned. -/
def SeqPostK {α : Type} (S Sp : List α → Prop) (J Jx : List Nat → List α → World → Prop) (D : World → Prop) (e : Ending) (W' : World) : Prop :=
 (∃ v, e = .returned v) ∧ ((∃ O xs, S xs ∧ J O xs W' ∧ D W') ∨ (∃ O pre, Sp pre ∧ Jx O pre W'))
/-- What a round owes. -/
def YieldPost {α : Type} (J Jx : List Nat → List α → World → Prop) (O : List Nat) (p : List α) (W1 : World) (e : Ending) (W' : World) : Prop :=
 ((e = .returned (.bool true) ∧ J O p W') ∨ (e = .returned (.bool false) ∧ Jx O p W')) ∧ Keeps O W1 W'
def SeqK {α : Type} (P : Program) (g : Nat) (lb : Array Value) (encs : α → Array Value) (S Sp : List α → Prop) (W0 : World) (O0 : List Nat) (K D : World → Prop) : Prop :=
 ∀ (l : Nat) (J Jx : List Nat → List α → World → Prop) (W : World), Below W0.heap.size W0 W →
  (∀ O s W1, J O s W1 → K W1) → J O0 [] W →
  (∀ O O' s W1 W2, J O s W1 → GrownL O W1 W2 → Claims O O' W1 W2 → J O' s W2) →
  (∀ O s W1 W2, Jx O s W1 → GrownL O W1 W2 → Jx O s W2) →
  (∀ O pre x W1, J O pre W1 → Sp (pre ++ [x]) → YieldAt Fence.wide 2 P l (encs x) W1 (YieldPost J Jx O (pre ++ [x]) W1)) →
  Calls P g (#[.func (.yield l) #[] #[]] ++ lb) W (SeqPostK S Sp J Jx D)

theorem yieldAt_weaker {P : Program} {l : Nat} {args : Array Value} {W : World} {R R' : Ending → World → Prop} (h : YieldAt Fence.wide 2 P l args W R) (hr : ∀ e W', R e W' → R' e W') : YieldAt Fence.wide 2 P l args W R' := by
 obtain ⟨fn, tmps, assign, body, hy, hR⟩ := h
 exact ⟨fn, tmps, assign, body, hy, hR.mono hr⟩

/-- What a round owes goes into a round of another loop, at whatever depth. -/
theorem roundIn_go {n m l0 : Nat} {P : Program} {l : Nat} {f : FuncId} {tmps : Array Value} {assign body : Code} {w : World} {R : Ending → World → Prop} (h : RoundIn Fence.wide n P l f tmps assign body w R) : RoundIn (Fence.wide.inRound l0) m P l f tmps assign body w R :=
 ⟨trivial, fun c cs _ => h.2 c cs (room_wide _)⟩
/-- A contract of R1 is one of these. -/
theorem SeqO.toK {α : Type} {P : Program} {g : Nat} {lb : Array Value} {encs : α → Array Value} {S Sp : List α → Prop} {W0 : World} (h : SeqO P g lb encs S Sp W0) (K : World → Prop) : SeqK P g lb encs S Sp W0 [] K (fun _ => True) := by
 intro l J Jx W hW _ h0 hJ hJx hY
 refine (h l J Jx W hW h0 hJ hJx fun O pre x W1 hj hs => yieldAt_weaker (hY O pre x W1 hj hs) ?_).mono ?_
 ·rintro e W' ⟨⟨he, h1⟩ | ⟨he, h1⟩, hk⟩
  ·exact .inl ⟨he, h1, hk⟩
  ·exact .inr ⟨he, h1⟩
 ·rintro e W' ⟨hv, ⟨O, xs, h1, h2⟩ | h2⟩
  ·exact ⟨hv, .inl ⟨O, xs, h1, h2, trivial⟩⟩
  ·exact ⟨hv, .inr h2⟩

/-- How the body of a round may be left. B: the blocks of the loop's own book-keeping. -/
def postK {α : Type} (B : List Nat) (I : List Nat → List α → World → Prop) (Ix : Code → List Nat → List α → World → Prop) (O : List Nat) (xs : List α) (W : World) : Exit → Act → World → Prop
 | .normal, _, W' => Keeps (B ++ O) W W' ∧ I O xs W'
 | .ret, _, W' => Keeps (B ++ O) W W' ∧ Ix .ret O xs W'
 | .exit id, _, W' => Keeps (B ++ O) W W' ∧ Ix (.exit id) O xs W'
 | .goto t, _, W' => Keeps (B ++ O) W W' ∧ Ix (.goto t) O xs W'
 | .panic _, _, _ => False
 | .outgrown, _, _ => False
/-- A loop's record lies there. -/
def HasLoop (b : Nat) (W : World) : Prop := ∃ r, W.heap[b]? = some (.loop r)
/-- Blocks that were handed, or that lie from n on. -/
def From (O0 : List Nat) (n : Nat) (O : List Nat) : Prop := ∀ o ∈ O, o ∈ O0 ∨ n ≤ o

set_option maxHeartbeats 1000000 in
theorem wpIn_rangeK {α : Type} {P : Program} {n : Nat} {g : Operand} {ps : Array Tmp} {assign body : Code} {Q : Exit → Act → World → Prop} {a : Act} {w : World}
  {gf : Nat} {lb : Array Value} (hg : a.eval g = .func (.func gf) #[] lb) (eg : ∀ args w, (callFunc gf args).run P w = .ok (.enter gf args) w)
  {encs : α → Array Value} {S Sp : List α → Prop} {W0 : World} {O0 : List Nat} {K D : World → Prop} (hseq : SeqK P gf lb encs S Sp W0 O0 K D) (hb0 : Below W0.heap.size W0 w) (hO0 : ∀ o ∈ O0, o < w.heap.size) (hps : ∀ x, (encs x).size = ps.size)
  (I : List Nat → List α → World → Prop) (Ix : Code → List Nat → List α → World → Prop) (hK : ∀ O s W, I O s W → K W)
  (h0 : ∀ W', Below w.heap.size w W' → w.heap.size + 2 ≤ W'.heap.size → I O0 [] W')
  (hI : ∀ O O' s W1 W2, From O0 (w.heap.size + 2) O → I O s W1 → GrownL (w.heap.size :: (w.heap.size + 1) :: O) W1 W2 → Claims O O' W1 W2 → I O' s W2)
  (hIx : ∀ c O s W1 W2, From O0 (w.heap.size + 2) O → Ix c O s W1 → GrownL (w.heap.size :: (w.heap.size + 1) :: O) W1 W2 → Ix c O s W2)
  (hround : ∀ O pre x W, From O0 (w.heap.size + 2) O → I O pre W → w.heap.size + 2 ≤ W.heap.size → Sp (pre ++ [x]) →
   assign.wpIn (Fence.wide.inRound (w.heap.size + 1)) 2 P (Exit.then (fun a₁ W₁ => Keeps (w.heap.size :: (w.heap.size + 1) :: O) W W₁ ∧
    ∀ W₂, GrownL [w.heap.size + 1] W₁ W₂ → HasLoop (w.heap.size + 1) W₂ → body.wpIn (Fence.wide.inRound (w.heap.size + 1)) 2 P (postK [w.heap.size, w.heap.size + 1] I Ix O (pre ++ [x]) W₂) a₁ W₂) (fun _ _ _ => False))
    { tmps := (ps.zip (encs x)).foldl (fun t (p, v) => t.setIfInBounds p v) a.tmps, defers := [] } W)
  (hdone : ∀ O xs W, From O0 (w.heap.size + 2) O → S xs → I O xs W → (∃ W1, D W1 ∧ GrownL [w.heap.size + 1] W1 W) → W.heap[w.heap.size]? = some (.deferred (some [])) → Q .normal { a with defers := { target := .collected w.heap.size, args := #[] } :: a.defers } W)
  (hstop : ∀ c O pre W, From O0 (w.heap.size + 2) O → Sp pre → Ix c O pre W → W.heap[w.heap.size]? = some (.deferred (some [])) → c.wpIn Fence.wide n P Q { a with defers := { target := .collected w.heap.size, args := #[] } :: a.defers } W) :
  (Code.rangeFunc g ps assign body).wpIn Fence.wide n P Q a w := by
 refine wpIn_rangeFunc ?_
 intro fn hfn
 rw [show Fence.wide.round = none from rfl]
 obtain ⟨rec, hrec⟩ : ∃ rec : LoopState → Option Code → Loop, rec = fun st pe => { state := st, pending := pe, fn, tmps := a.tmps, params := ps, assign, body, defers := w.heap.size } := ⟨_, rfl⟩
 obtain ⟨W1, hW1⟩ : ∃ W1, (w.alloc (.deferred (some []))).alloc (.loop (rec .ready none)) = W1 := ⟨_, rfl⟩
 have hL1 : W1.heap[w.heap.size + 1]? = some (.loop (rec .ready none)) := by
  rw [← hW1]; have := World.alloc_heap_new (w.alloc (.deferred (some []))) (.loop (rec .ready none)); rwa [World.size_alloc] at this
 have hK1 : W1.heap[w.heap.size]? = some (.deferred (some [])) := by
  rw [← hW1]; exact (Below.heap_alloc _ _ _ (by simp)).trans (World.alloc_heap_new w _)
 have hS1 : W1.heap.size = w.heap.size + 2 := by rw [← hW1]; simp
 have hbw : Below w.heap.size w W1 := by rw [← hW1]; exact ((Below.refl _ w).alloc (Nat.le_refl _) _).alloc (by simp) _
 have hb1 : Below W0.heap.size W0 W1 := hb0.trans (hbw.mono hb0.size)
 have notin : ∀ O k, From O0 (w.heap.size + 2) O → w.heap.size ≤ k → k ≤ w.heap.size + 1 → k ∉ O := fun O k hO h1 h2 hm => by
  rcases hO k hm with h | h
  ·have := hO0 k h; omega
  ·omega
 refine ⟨w.heap.size + 1, [{ target := .collected w.heap.size, args := #[] }], W1, { target := .fn (.func gf) lb, args := #[.func (.yield (w.heap.size + 1)) #[] #[]] }, W1, gf,
  #[.func (.yield (w.heap.size + 1)) #[] #[]] ++ lb, W1, ?_, ?_, ?_, ?_, fun h => (by cases h), ?_⟩
 ·rw [← hW1, hrec]; exact run_enterLoop_outer _ _ _ _ _
 ·simp only [resolve, hg]
  simp [go_sem]
 ·intro f' _; exact trivial
 ·simp [invoke, go_sem, eg]
 ·refine callsIn_wide.2 ?_
  refine (hseq (w.heap.size + 1)
   (fun O pre W => From O0 (w.heap.size + 2) O ∧ I O pre W ∧ W.heap[w.heap.size + 1]? = some (.loop (rec .ready none)) ∧ W.heap[w.heap.size]? = some (.deferred (some [])))
   (fun O pre W => From O0 (w.heap.size + 2) O ∧ ∃ c, Ix c O pre W ∧ W.heap[w.heap.size + 1]? = some (.loop (rec .done (some c))) ∧ W.heap[w.heap.size]? = some (.deferred (some [])))
   W1 hb1 (fun O s W h => hK O s W h.2.1) ?_ ?_ ?_ ?_).mono ?_
  ·exact ⟨(fun o ho => .inl ho), h0 W1 hbw (by omega), hL1, hK1⟩
  ·rintro O O' s X Y ⟨hO, hi, hl, hk⟩ hg' hcl
   have hl' := (Array.getElem?_eq_some_iff.1 hl).1
   have hk' := (Array.getElem?_eq_some_iff.1 hk).1
   exact ⟨(fun o ho => by rcases hcl o ho with h | h; exact hO o h; exact .inr (by omega)), hI O O' s X Y hO hi (hg'.mono (fun b hb => by simp [hb])) hcl, (hg'.block _ hl' (notin O _ hO (by omega) (by omega))).trans hl, (hg'.block _ hk' (notin O _ hO (by omega) (by omega))).trans hk⟩
  ·rintro O s X Y ⟨hO, c, hi, hl, hk⟩ hg'
   have hl' := (Array.getElem?_eq_some_iff.1 hl).1
   have hk' := (Array.getElem?_eq_some_iff.1 hk).1
   exact ⟨hO, c, hIx c O s X Y hO hi (hg'.mono (fun b hb => by simp [hb])), (hg'.block _ hl' (notin O _ hO (by omega) (by omega))).trans hl, (hg'.block _ hk' (notin O _ hO (by omega) (by omega))).trans hk⟩
  ·-- one round
   rintro O pre x W ⟨hO, hi, hl, hk⟩ hsp
   have hlt : w.heap.size + 1 < W.heap.size := (Array.getElem?_eq_some_iff.1 hl).1
   have hy := run_yield (P := P) (args := encs x) hl (by rw [hrec]; exact hps x)
   rw [hrec] at hy
   refine ⟨fn, _, assign, body, hy, roundIn_of_wpIn trivial (wpIn_mono (hround O pre x W hO hi (by omega) hsp) ?_)⟩
   clear hy
   rintro e a₁ Wa hp
   cases e with
   | normal =>
    obtain ⟨hka, hb⟩ := hp
    have hla := hka.obj hl (by simp)
    have hkka := hka.obj hk (by simp)
    have hlta : w.heap.size + 1 < Wa.heap.size := (Array.getElem?_eq_some_iff.1 hla).1
    refine ⟨_, run_beginRound hla (by rw [hrec]), ?_⟩
    have hl2 : (Wa.putObj (w.heap.size + 1) (.loop { rec .ready none with state := .busy })).heap[w.heap.size + 1]? = some (.loop { rec .ready none with state := .busy }) := World.putObj_heap_same hlta
    have hk2 : (Wa.putObj (w.heap.size + 1) (.loop { rec .ready none with state := .busy })).heap[w.heap.size]? = some (.deferred (some [])) := (World.putObj_heap_other (by omega)).trans hkka
    have hg2 : GrownL [w.heap.size + 1] Wa (Wa.putObj (w.heap.size + 1) (.loop { rec .ready none with state := .busy })) := GrownL.putObj _ _ _ (by simp)
    refine wpIn_mono (hb _ hg2 ⟨_, hl2⟩) ?_
    have hkeepO : ∀ (A B : World), GrownL [w.heap.size + 1] A B → Keeps O A B := fun A B h => Keeps.of_grown h (fun o ho hm => by simp at hm; subst hm; exact notin O _ hO (by omega) (Nat.le_refl _) ho)
    have fin : ∀ (jump : Option Code) (W3 : World), Keeps ([w.heap.size, w.heap.size + 1] ++ O) (Wa.putObj (w.heap.size + 1) (.loop { rec .ready none with state := .busy })) W3 →
      (Instr.endRound (w.heap.size + 1) jump).run P W3 = .ok (.bool jump.isNone) (W3.putObj (w.heap.size + 1) (.loop (rec (if jump.isNone then .ready else .done) jump))) ∧
      W3.heap[w.heap.size + 1]? = some (.loop { rec .ready none with state := .busy }) ∧
      (W3.putObj (w.heap.size + 1) (.loop (rec (if jump.isNone then .ready else .done) jump))).heap[w.heap.size + 1]? = some (.loop (rec (if jump.isNone then .ready else .done) jump)) ∧
      (W3.putObj (w.heap.size + 1) (.loop (rec (if jump.isNone then .ready else .done) jump))).heap[w.heap.size]? = some (.deferred (some [])) ∧
      Keeps O W (W3.putObj (w.heap.size + 1) (.loop (rec (if jump.isNone then .ready else .done) jump))) := fun jump W3 hk3 => by
     have hl3 := hk3.obj hl2 (by simp)
     have := run_endRound (P := P) jump hl3
     rw [hrec] at this ⊢
     refine ⟨this, by rw [hrec] at hl3; exact hl3, World.putObj_heap_same (Array.getElem?_eq_some_iff.1 hl3).1, (World.putObj_heap_other (by omega)).trans (hk3.obj hk2 (by simp)), ?_⟩
     exact ((hka.mono (fun o ho => by simp [ho])).trans (hkeepO _ _ hg2)).trans ((hk3.mono (fun o ho => by simp [ho])).trans (hkeepO _ _ (GrownL.putObj _ _ _ (by simp))))
    have up : ∀ (W3 : World) (o : Obj), GrownL (w.heap.size :: (w.heap.size + 1) :: O) W3 (W3.putObj (w.heap.size + 1) o) := fun W3 o => GrownL.putObj _ _ _ (by simp)
    rintro e a3 W3 hp
    cases e with
    | normal =>
     obtain ⟨hk3, hi3⟩ := hp
     obtain ⟨hr, hl3, hl4, hk4, hkk⟩ := fin none W3 hk3
     exact ⟨_, _, hr, .inl ⟨rfl, ⟨hO, hI O O _ _ _ hO hi3 (up _ _) (Claims.refl _ _ _), hl4, hk4⟩⟩, hkk⟩
    | ret =>
     obtain ⟨hk3, hi3⟩ := hp
     obtain ⟨hr, hl3, hl4, hk4, hkk⟩ := fin (some .ret) W3 hk3
     exact ⟨_, _, hr, .inr ⟨rfl, hO, .ret, hIx _ O _ _ _ hO hi3 (up _ _), hl4, hk4⟩, hkk⟩
    | exit id =>
     obtain ⟨hk3, hi3⟩ := hp
     obtain ⟨hr, hl3, hl4, hk4, hkk⟩ := fin (some (.exit id)) W3 hk3
     exact ⟨_, _, hr, .inr ⟨rfl, hO, .exit id, hIx _ O _ _ _ hO hi3 (up _ _), hl4, hk4⟩, hkk⟩
    | goto t =>
     obtain ⟨hk3, hi3⟩ := hp
     obtain ⟨hr, hl3, hl4, hk4, hkk⟩ := fin (some (.goto t)) W3 hk3
     exact ⟨_, _, hr, .inr ⟨rfl, hO, .goto t, hIx _ O _ _ _ hO hi3 (up _ _), hl4, hk4⟩, hkk⟩
    | panic ch => exact hp.elim
    | outgrown => exact hp.elim
   | exit id => exact hp.elim
   | goto t => exact hp.elim
   | ret => exact hp.elim
   | panic ch => exact hp.elim
   | outgrown => exact hp.elim
  ·-- behind the iterator
   have up : ∀ (O : List Nat) (W3 : World) (o : Obj), GrownL (w.heap.size :: (w.heap.size + 1) :: O) W3 (W3.putObj (w.heap.size + 1) o) := fun O W3 o => GrownL.putObj _ _ _ (by simp)
   rintro e W2 ⟨⟨v, rfl⟩, (⟨O, xs, hS, ⟨hO, hi, hl, hk⟩, hD⟩ | ⟨O, pre, hSp, hO, c, hi, hl, hk⟩)⟩
   ·exact ⟨none, _, by have := run_endLoop (P := P) hl (by rw [hrec]; simp); rw [hrec] at this; exact this, hdone O xs _ hO hS (hI O O _ _ _ hO hi (up _ _ _) (Claims.refl _ _ _)) ⟨W2, hD, GrownL.putObj _ _ _ (by simp)⟩ ((World.putObj_heap_other (by omega)).trans hk)⟩
   ·exact ⟨some c, _, by have := run_endLoop (P := P) hl (by rw [hrec]; simp); rw [hrec] at this; exact this, hstop c O pre _ hO hSp (hIx c O _ _ _ hO hi (up _ _ _)) ((World.putObj_heap_other (by omega)).trans hk)⟩

set_option maxHeartbeats 1000000 in
/-- The same within a round of the loop l0: one block of book-keeping, and no mark. -/
theorem wpIn_rangeKN {α : Type} {P : Program} {n l0 : Nat} {r0 : Loop} {g : Operand} {ps : Array Tmp} {assign body : Code} {Q : Exit → Act → World → Prop} {a : Act} {w : World}
  {gf : Nat} {lb : Array Value} (hl0 : w.heap[l0]? = some (.loop r0)) (hg : a.eval g = .func (.func gf) #[] lb) (eg : ∀ args w, (callFunc gf args).run P w = .ok (.enter gf args) w)
  {encs : α → Array Value} {S Sp : List α → Prop} {W0 : World} {O0 : List Nat} {K D : World → Prop} (hseq : SeqK P gf lb encs S Sp W0 O0 K D) (hb0 : Below W0.heap.size W0 w) (hO0 : ∀ o ∈ O0, o < w.heap.size) (hps : ∀ x, (encs x).size = ps.size)
  (I : List Nat → List α → World → Prop) (Ix : Code → List Nat → List α → World → Prop) (hK : ∀ O s W, I O s W → K W)
  (h0 : ∀ W', Below w.heap.size w W' → w.heap.size + 1 ≤ W'.heap.size → I O0 [] W')
  (hI : ∀ O O' s W1 W2, From O0 (w.heap.size + 1) O → I O s W1 → GrownL (w.heap.size :: O) W1 W2 → Claims O O' W1 W2 → I O' s W2)
  (hIx : ∀ c O s W1 W2, From O0 (w.heap.size + 1) O → Ix c O s W1 → GrownL (w.heap.size :: O) W1 W2 → Ix c O s W2)
  (hround : ∀ O pre x W, From O0 (w.heap.size + 1) O → I O pre W → w.heap.size + 1 ≤ W.heap.size → Sp (pre ++ [x]) →
   assign.wpIn (Fence.wide.inRound w.heap.size) 2 P (Exit.then (fun a₁ W₁ => Keeps (w.heap.size :: O) W W₁ ∧
    ∀ W₂, GrownL [w.heap.size] W₁ W₂ → HasLoop w.heap.size W₂ → body.wpIn (Fence.wide.inRound w.heap.size) 2 P (postK [w.heap.size] I Ix O (pre ++ [x]) W₂) a₁ W₂) (fun _ _ _ => False))
    { tmps := (ps.zip (encs x)).foldl (fun t (p, v) => t.setIfInBounds p v) a.tmps, defers := [] } W)
  (hdone : ∀ O xs W, From O0 (w.heap.size + 1) O → S xs → I O xs W → (∃ W1, D W1 ∧ GrownL [w.heap.size] W1 W) → Q .normal a W)
  (hstop : ∀ c O pre W, From O0 (w.heap.size + 1) O → Sp pre → Ix c O pre W → c.wpIn (Fence.wide.inRound l0) n P Q a W) :
  (Code.rangeFunc g ps assign body).wpIn (Fence.wide.inRound l0) n P Q a w := by
 refine wpIn_rangeFunc ?_
 intro fn hfn
 rw [show (Fence.wide.inRound l0).round = some l0 from rfl]
 obtain ⟨rec, hrec⟩ : ∃ rec : LoopState → Option Code → Loop, rec = fun st pe => { state := st, pending := pe, fn, tmps := a.tmps, params := ps, assign, body, defers := r0.defers } := ⟨_, rfl⟩
 obtain ⟨W1, hW1⟩ : ∃ W1, w.alloc (.loop (rec .ready none)) = W1 := ⟨_, rfl⟩
 have hL1 : W1.heap[w.heap.size]? = some (.loop (rec .ready none)) := by rw [← hW1]; exact World.alloc_heap_new w _
 have hS1 : W1.heap.size = w.heap.size + 1 := by rw [← hW1]; simp
 have hbw : Below w.heap.size w W1 := by rw [← hW1]; exact (Below.refl _ w).alloc (Nat.le_refl _) _
 have hb1 : Below W0.heap.size W0 W1 := hb0.trans (hbw.mono hb0.size)
 have notin : ∀ O, From O0 (w.heap.size + 1) O → w.heap.size ∉ O := fun O hO hm => by
  rcases hO _ hm with h | h
  ·have := hO0 _ h; omega
  ·omega
 refine ⟨w.heap.size, [], W1, { target := .fn (.func gf) lb, args := #[.func (.yield w.heap.size) #[] #[]] }, W1, gf,
  #[.func (.yield w.heap.size) #[] #[]] ++ lb, W1, ?_, ?_, ?_, ?_, fun h => (by cases h), ?_⟩
 ·rw [← hW1, hrec]; exact run_enterLoop_inner hl0 _ _ _ _ _
 ·simp only [resolve, hg]
  simp [go_sem]
 ·intro f' _; exact trivial
 ·simp [invoke, go_sem, eg]
 ·refine CallsIn.inRound l0 (callsIn_wide.2 ?_)
  refine (hseq w.heap.size
   (fun O pre W => From O0 (w.heap.size + 1) O ∧ I O pre W ∧ W.heap[w.heap.size]? = some (.loop (rec .ready none)))
   (fun O pre W => From O0 (w.heap.size + 1) O ∧ ∃ c, Ix c O pre W ∧ W.heap[w.heap.size]? = some (.loop (rec .done (some c))))
   W1 hb1 (fun O s W h => hK O s W h.2.1) ?_ ?_ ?_ ?_).mono ?_
  ·exact ⟨(fun o ho => .inl ho), h0 W1 hbw (by omega), hL1⟩
  ·rintro O O' s X Y ⟨hO, hi, hl⟩ hg' hcl
   have hl' := (Array.getElem?_eq_some_iff.1 hl).1
   exact ⟨(fun o ho => by rcases hcl o ho with h | h; exact hO o h; exact .inr (by omega)), hI O O' s X Y hO hi (hg'.mono (fun b hb => by simp [hb])) hcl, (hg'.block _ hl' (notin O hO)).trans hl⟩
  ·rintro O s X Y ⟨hO, c, hi, hl⟩ hg'
   have hl' := (Array.getElem?_eq_some_iff.1 hl).1
   exact ⟨hO, c, hIx c O s X Y hO hi (hg'.mono (fun b hb => by simp [hb])), (hg'.block _ hl' (notin O hO)).trans hl⟩
  ·-- one round
   rintro O pre x W ⟨hO, hi, hl⟩ hsp
   have hlt : w.heap.size < W.heap.size := (Array.getElem?_eq_some_iff.1 hl).1
   have hy := run_yield (P := P) (args := encs x) hl (by rw [hrec]; exact hps x)
   rw [hrec] at hy
   refine ⟨fn, _, assign, body, hy, roundIn_of_wpIn trivial (wpIn_mono (hround O pre x W hO hi (by omega) hsp) ?_)⟩
   clear hy
   rintro e a₁ Wa hp
   cases e with
   | normal =>
    obtain ⟨hka, hb⟩ := hp
    have hla := hka.obj hl (by simp)
    have hlta : w.heap.size < Wa.heap.size := (Array.getElem?_eq_some_iff.1 hla).1
    refine ⟨_, run_beginRound hla (by rw [hrec]), ?_⟩
    have hl2 : (Wa.putObj w.heap.size (.loop { rec .ready none with state := .busy })).heap[w.heap.size]? = some (.loop { rec .ready none with state := .busy }) := World.putObj_heap_same hlta
    have hg2 : GrownL [w.heap.size] Wa (Wa.putObj w.heap.size (.loop { rec .ready none with state := .busy })) := GrownL.putObj _ _ _ (by simp)
    refine wpIn_mono (hb _ hg2 ⟨_, hl2⟩) ?_
    have hkeepO : ∀ (A B : World), GrownL [w.heap.size] A B → Keeps O A B := fun A B h => Keeps.of_grown h (fun o ho hm => by simp at hm; subst hm; exact notin O hO ho)
    have fin : ∀ (jump : Option Code) (W3 : World), Keeps ([w.heap.size] ++ O) (Wa.putObj w.heap.size (.loop { rec .ready none with state := .busy })) W3 →
      (Instr.endRound w.heap.size jump).run P W3 = .ok (.bool jump.isNone) (W3.putObj w.heap.size (.loop (rec (if jump.isNone then .ready else .done) jump))) ∧
      W3.heap[w.heap.size]? = some (.loop { rec .ready none with state := .busy }) ∧
      (W3.putObj w.heap.size (.loop (rec (if jump.isNone then .ready else .done) jump))).heap[w.heap.size]? = some (.loop (rec (if jump.isNone then .ready else .done) jump)) ∧
      Keeps O W (W3.putObj w.heap.size (.loop (rec (if jump.isNone then .ready else .done) jump))) := fun jump W3 hk3 => by
     have hl3 := hk3.obj hl2 (by simp)
     have := run_endRound (P := P) jump hl3
     rw [hrec] at this ⊢
     refine ⟨this, by rw [hrec] at hl3; exact hl3, World.putObj_heap_same (Array.getElem?_eq_some_iff.1 hl3).1, ?_⟩
     exact ((hka.mono (fun o ho => by simp [ho])).trans (hkeepO _ _ hg2)).trans ((hk3.mono (fun o ho => by simp [ho])).trans (hkeepO _ _ (GrownL.putObj _ _ _ (by simp))))
    have up : ∀ (W3 : World) (o : Obj), GrownL (w.heap.size :: O) W3 (W3.putObj w.heap.size o) := fun W3 o => GrownL.putObj _ _ _ (by simp)
    rintro e a3 W3 hp
    cases e with
    | normal =>
     obtain ⟨hk3, hi3⟩ := hp
     obtain ⟨hr, hl3, hl4, hkk⟩ := fin none W3 hk3
     exact ⟨_, _, hr, .inl ⟨rfl, ⟨hO, hI O O _ _ _ hO hi3 (up _ _) (Claims.refl _ _ _), hl4⟩⟩, hkk⟩
    | ret =>
     obtain ⟨hk3, hi3⟩ := hp
     obtain ⟨hr, hl3, hl4, hkk⟩ := fin (some .ret) W3 hk3
     exact ⟨_, _, hr, .inr ⟨rfl, hO, .ret, hIx _ O _ _ _ hO hi3 (up _ _), hl4⟩, hkk⟩
    | exit id =>
     obtain ⟨hk3, hi3⟩ := hp
     obtain ⟨hr, hl3, hl4, hkk⟩ := fin (some (.exit id)) W3 hk3
     exact ⟨_, _, hr, .inr ⟨rfl, hO, .exit id, hIx _ O _ _ _ hO hi3 (up _ _), hl4⟩, hkk⟩
    | goto t =>
     obtain ⟨hk3, hi3⟩ := hp
     obtain ⟨hr, hl3, hl4, hkk⟩ := fin (some (.goto t)) W3 hk3
     exact ⟨_, _, hr, .inr ⟨rfl, hO, .goto t, hIx _ O _ _ _ hO hi3 (up _ _), hl4⟩, hkk⟩
    | panic ch => exact hp.elim
    | outgrown => exact hp.elim
   | exit id => exact hp.elim
   | goto t => exact hp.elim
   | ret => exact hp.elim
   | panic ch => exact hp.elim
   | outgrown => exact hp.elim
  ·-- behind the iterator
   have up : ∀ (O : List Nat) (W3 : World) (o : Obj), GrownL (w.heap.size :: O) W3 (W3.putObj w.heap.size o) := fun O W3 o => GrownL.putObj _ _ _ (by simp)
   rintro e W2 ⟨⟨v, rfl⟩, (⟨O, xs, hS, ⟨hO, hi, hl⟩, hD⟩ | ⟨O, pre, hSp, hO, c, hi, hl⟩)⟩
   ·exact ⟨none, _, by have := run_endLoop (P := P) hl (by rw [hrec]; simp); rw [hrec] at this; exact this, hdone O xs _ hO hS (hI O O _ _ _ hO hi (up _ _ _) (Claims.refl _ _ _)) ⟨W2, hD, GrownL.putObj _ _ _ (by simp)⟩⟩
   ·exact ⟨some c, _, by have := run_endLoop (P := P) hl (by rw [hrec]; simp); rw [hrec] at this; exact this, hstop c O pre _ hO hSp (hIx c O _ _ _ hO hi (up _ _ _))⟩
end Go.Proofs.Ytkoacclbempmdaa
