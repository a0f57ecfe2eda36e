/- As R1, for an iterator that may be handed blocks of its own (O0), that reads cells behind its yields (K), and that says what it leaves (D); also for a loop within a round. -/
import Derived.Test.YtlhgpeelenelbaaGreatDoorR1
import Derived.Test.YtlhgpeelenelbaaGreatDoorM4
import Derived.Test.YtlhgpeelenelbaaGreatDoorE6
namespace Go.Proofs.YtlhgpeelenelbaaGreatDoor
open Go.RowKit

/-- What is left when the iterator has returned. -/
def SeqPostK {α : Type} (S Sp : List α → Prop) (J Jx : List Nat → List α → World → Prop) (D : World → Prop) (e : Ending) (W' : World) : Prop :=
  (∃ v, e = .returned v) ∧ ((∃ O xs, S xs ∧ J O xs W' ∧ D W') ∨ (∃ O pre, Sp pre ∧ Jx O pre W'))
/-- What a round owes. -/
def YieldPost {α : Type} (J Jx : List Nat → List α → World → Prop) (O : List Nat) (p : List α) (W1 : World) (e : Ending) (W' : World) : Prop :=
  ((e = .returned (.bool true) ∧ J O p W') ∨ (e = .returned (.bool false) ∧ Jx O p W')) ∧ Keeps O W1 W'
def SeqK {α : Type} (P : Program) (g : Nat) (lb : Array Value) (encs : α → Array Value) (S Sp : List α → Prop) (W0 : World) (O0 : List Nat) (K D : World → Prop) : Prop :=
  ∀ (l : Nat) (J Jx : List Nat → List α → World → Prop) (W : World), Below W0.heap.size W0 W →
    (∀ O s W1, J O s W1 → K W1) → J O0 [] W →
    (∀ O O' s W1 W2, J O s W1 → GrownL O W1 W2 → Claims O O' W1 W2 → J O' s W2) →
    (∀ O s W1 W2, Jx O s W1 → GrownL O W1 W2 → Jx O s W2) →
    (∀ O pre x W1, J O pre W1 → Sp (pre ++ [x]) → YieldAt Fence.wide 2 P l (encs x) W1 (YieldPost J Jx O (pre ++ [x]) W1)) →
    Calls P g (#[.func (.yield l) #[] #[]] ++ lb) W (SeqPostK S Sp J Jx D)

theorem yieldAt_weaker {P : Program} {l : Nat} {args : Array Value} {W : World} {R R' : Ending → World → Prop} (h : YieldAt Fence.wide 2 P l args W R) (hr : ∀ e W', R e W' → R' e W') : YieldAt Fence.wide 2 P l args W R' := by
  obtain ⟨fn, tmps, assign, body, hy, hR⟩ := h
  exact ⟨fn, tmps, assign, body, hy, hR.mono hr⟩

/-- What a round owes goes into a round of another loop, at whatever depth. -/
theorem roundIn_go {n m l0 : Nat} {P : Program} {l : Nat} {f : FuncId} {tmps : Array Value} {assign body : Code} {w : World} {R : Ending → World → Prop} (h : RoundIn Fence.wide n P l f tmps assign body w R) : RoundIn (Fence.wide.inRound l0) m P l f tmps assign body w R :=
  ⟨trivial, fun c cs _ => h.2 c cs (room_wide _)⟩
/-- A contract of R1 is one of these. -/
theorem SeqO.toK {α : Type} {P : Program} {g : Nat} {lb : Array Value} {encs : α → Array Value} {S Sp : List α → Prop} {W0 : World} (h : SeqO P g lb encs S Sp W0) (K : World → Prop) : SeqK P g lb encs S Sp W0 [] K (fun _ => True) := by
  intro l J Jx W hW _ h0 hJ hJx hY
  refine (h l J Jx W hW h0 hJ hJx fun O pre x W1 hj hs => yieldAt_weaker (hY O pre x W1 hj hs) ?_).mono ?_
  · rintro e W' ⟨⟨he, h1⟩ | ⟨he, h1⟩, hk⟩
    · exact .inl ⟨he, h1, hk⟩
    · exact .inr ⟨he, h1⟩
  · rintro e W' ⟨hv, ⟨O, xs, h1, h2⟩ | h2⟩
    · exact ⟨hv, .inl ⟨O, xs, h1, h2, trivial⟩⟩
    · exact ⟨hv, .inr h2⟩

/-- How the body of a round may be left. B: the blocks of the loop's own book-keeping. -/
def postK {α : Type} (B : List Nat) (I : List Nat → List α → World → Prop) (Ix : Code → List Nat → List α → World → Prop) (O : List Nat) (xs : List α) (W : World) : Exit → Act → World → Prop
  | .normal, _, W' => Keeps (B ++ O) W W' ∧ I O xs W'
  | .ret, _, W' => Keeps (B ++ O) W W' ∧ Ix .ret O xs W'
  | .exit id, _, W' => Keeps (B ++ O) W W' ∧ Ix (.exit id) O xs W'
  | .goto t, _, W' => Keeps (B ++ O) W W' ∧ Ix (.goto t) O xs W'
  | .panic _, _, _ => False
  | .outgrown, _, _ => False
/-- A loop's record lies there. -/
def HasLoop (b : Nat) (W : World) : Prop := ∃ r, W.heap[b]? = some (.loop r)
/-- Blocks that were handed, or that lie from n on. -/
def From (O0 : List Nat) (n : Nat) (O : List Nat) : Prop := ∀ o ∈ O, o ∈ O0 ∨ n ≤ o

set_option maxHeartbeats 1000000 in
theorem wpIn_rangeK {α : Type} {P : Program} {n : Nat} {g : Operand} {ps : Array Tmp} {assign body : Code} {Q : Exit → Act → World → Prop} {a : Act} {w : World}
    {gf : Nat} {lb : Array Value} (hg : a.eval g = .func (.func gf) #[] lb) (eg : ∀ args w, (callFunc gf args).run P w = .ok (.enter gf args) w)
    {encs : α → Array Value} {S Sp : List α → Prop} {W0 : World} {O0 : List Nat} {K D : World → Prop} (hseq : SeqK P gf lb encs S Sp W0 O0 K D) (hb0 : Below W0.heap.size W0 w) (hO0 : ∀ o ∈ O0, o < w.heap.size) (hps : ∀ x, (encs x).size = ps.size)
    (I : List Nat → List α → World → Prop) (Ix : Code → List Nat → List α → World → Prop) (hK : ∀ O s W, I O s W → K W)
    (h0 : ∀ W', Below w.heap.size w W' → w.heap.size + 2 ≤ W'.heap.size → I O0 [] W')
    (hI : ∀ O O' s W1 W2, From O0 (w.heap.size + 2) O → I O s W1 → GrownL (w.heap.size :: (w.heap.size + 1) :: O) W1 W2 → Claims O O' W1 W2 → I O' s W2)
    (hIx : ∀ c O s W1 W2, From O0 (w.heap.size + 2) O → Ix c O s W1 → GrownL (w.heap.size :: (w.heap.size + 1) :: O) W1 W2 → Ix c O s W2)
    (hround : ∀ O pre x W, From O0 (w.heap.size + 2) O → I O pre W → w.heap.size + 2 ≤ W.heap.size → Sp (pre ++ [x]) →
      assign.wpIn (Fence.wide.inRound (w.heap.size + 1)) 2 P (Exit.then (fun a₁ W₁ => Keeps (w.heap.size :: (w.heap.size + 1) :: O) W W₁ ∧
        ∀ W₂, GrownL [w.heap.size + 1] W₁ W₂ → HasLoop (w.heap.size + 1) W₂ → body.wpIn (Fence.wide.inRound (w.heap.size + 1)) 2 P (postK [w.heap.size, w.heap.size + 1] I Ix O (pre ++ [x]) W₂) a₁ W₂) (fun _ _ _ => False))
        { tmps := (ps.zip (encs x)).foldl (fun t (p, v) => t.setIfInBounds p v) a.tmps, defers := [] } W)
    (hdone : ∀ O xs W, From O0 (w.heap.size + 2) O → S xs → I O xs W → (∃ W1, D W1 ∧ GrownL [w.heap.size + 1] W1 W) → W.heap[w.heap.size]? = some (.deferred (some [])) → Q .normal { a with defers := { target := .collected w.heap.size, args := #[] } :: a.defers } W)
    (hstop : ∀ c O pre W, From O0 (w.heap.size + 2) O → Sp pre → Ix c O pre W → W.heap[w.heap.size]? = some (.deferred (some [])) → c.wpIn Fence.wide n P Q { a with defers := { target := .collected w.heap.size, args := #[] } :: a.defers } W) :
    (Code.rangeFunc g ps assign body).wpIn Fence.wide n P Q a w := by
  refine wpIn_rangeFunc ?_
  intro fn hfn
  rw [show Fence.wide.round = none from rfl]
  obtain ⟨rec, hrec⟩ : ∃ rec : LoopState → Option Code → Loop, rec = fun st pe => { state := st, pending := pe, fn, tmps := a.tmps, params := ps, assign, body, defers := w.heap.size } := ⟨_, rfl⟩
  obtain ⟨W1, hW1⟩ : ∃ W1, (w.alloc (.deferred (some []))).alloc (.loop (rec .ready none)) = W1 := ⟨_, rfl⟩
  have hL1 : W1.heap[w.heap.size + 1]? = some (.loop (rec .ready none)) := by
    rw [← hW1]; have := World.alloc_heap_new (w.alloc (.deferred (some []))) (.loop (rec .ready none)); rwa [World.size_alloc] at this
  have hK1 : W1.heap[w.heap.size]? = some (.deferred (some [])) := by
    rw [← hW1]; exact (Below.heap_alloc _ _ _ (by simp)).trans (World.alloc_heap_new w _)
  have hS1 : W1.heap.size = w.heap.size + 2 := by rw [← hW1]; simp
  have hbw : Below w.heap.size w W1 := by rw [← hW1]; exact ((Below.refl _ w).alloc (Nat.le_refl _) _).alloc (by simp) _
  have hb1 : Below W0.heap.size W0 W1 := hb0.trans (hbw.mono hb0.size)
  have notin : ∀ O k, From O0 (w.heap.size + 2) O → w.heap.size ≤ k → k ≤ w.heap.size + 1 → k ∉ O := fun O k hO h1 h2 hm => by
    rcases hO k hm with h | h
    · have := hO0 k h; omega
    · omega
  refine ⟨w.heap.size + 1, [{ target := .collected w.heap.size, args := #[] }], W1, { target := .fn (.func gf) lb, args := #[.func (.yield (w.heap.size + 1)) #[] #[]] }, W1, gf,
    #[.func (.yield (w.heap.size + 1)) #[] #[]] ++ lb, W1, ?_, ?_, ?_, ?_, fun h => (by cases h), ?_⟩
  · rw [← hW1, hrec]; exact run_enterLoop_outer _ _ _ _ _
  · simp only [resolve, hg]
    simp [go_sem]
  · intro f' _; exact trivial
  · simp [invoke, go_sem, eg]
  · refine callsIn_wide.2 ?_
    refine (hseq (w.heap.size + 1)
      (fun O pre W => From O0 (w.heap.size + 2) O ∧ I O pre W ∧ W.heap[w.heap.size + 1]? = some (.loop (rec .ready none)) ∧ W.heap[w.heap.size]? = some (.deferred (some [])))
      (fun O pre W => From O0 (w.heap.size + 2) O ∧ ∃ c, Ix c O pre W ∧ W.heap[w.heap.size + 1]? = some (.loop (rec .done (some c))) ∧ W.heap[w.heap.size]? = some (.deferred (some [])))
      W1 hb1 (fun O s W h => hK O s W h.2.1) ?_ ?_ ?_ ?_).mono ?_
    · exact ⟨(fun o ho => .inl ho), h0 W1 hbw (by omega), hL1, hK1⟩
    · rintro O O' s X Y ⟨hO, hi, hl, hk⟩ hg' hcl
      have hl' := (Array.getElem?_eq_some_iff.1 hl).1
      have hk' := (Array.getElem?_eq_some_iff.1 hk).1
      exact ⟨(fun o ho => by rcases hcl o ho with h | h; exact hO o h; exact .inr (by omega)), hI O O' s X Y hO hi (hg'.mono (fun b hb => by simp [hb])) hcl, (hg'.block _ hl' (notin O _ hO (by omega) (by omega))).trans hl, (hg'.block _ hk' (notin O _ hO (by omega) (by omega))).trans hk⟩
    · rintro O s X Y ⟨hO, c, hi, hl, hk⟩ hg'
      have hl' := (Array.getElem?_eq_some_iff.1 hl).1
      have hk' := (Array.getElem?_eq_some_iff.1 hk).1
      exact ⟨hO, c, hIx c O s X Y hO hi (hg'.mono (fun b hb => by simp [hb])), (hg'.block _ hl' (notin O _ hO (by omega) (by omega))).trans hl, (hg'.block _ hk' (notin O _ hO (by omega) (by omega))).trans hk⟩
    · -- one round
      rintro O pre x W ⟨hO, hi, hl, hk⟩ hsp
      have hlt : w.heap.size + 1 < W.heap.size := (Array.getElem?_eq_some_iff.1 hl).1
      have hy := run_yield (P := P) (args := encs x) hl (by rw [hrec]; exact hps x)
      rw [hrec] at hy
      refine ⟨fn, _, assign, body, hy, roundIn_of_wpIn trivial (wpIn_mono (hround O pre x W hO hi (by omega) hsp) ?_)⟩
      clear hy
      rintro e a₁ Wa hp
      cases e with
      | normal =>
        obtain ⟨hka, hb⟩ := hp
        have hla := hka.obj hl (by simp)
        have hkka := hka.obj hk (by simp)
        have hlta : w.heap.size + 1 < Wa.heap.size := (Array.getElem?_eq_some_iff.1 hla).1
        refine ⟨_, run_beginRound hla (by rw [hrec]), ?_⟩
        have hl2 : (Wa.putObj (w.heap.size + 1) (.loop { rec .ready none with state := .busy })).heap[w.heap.size + 1]? = some (.loop { rec .ready none with state := .busy }) := World.putObj_heap_same hlta
        have hk2 : (Wa.putObj (w.heap.size + 1) (.loop { rec .ready none with state := .busy })).heap[w.heap.size]? = some (.deferred (some [])) := (World.putObj_heap_other (by omega)).trans hkka
        have hg2 : GrownL [w.heap.size + 1] Wa (Wa.putObj (w.heap.size + 1) (.loop { rec .ready none with state := .busy })) := GrownL.putObj _ _ _ (by simp)
        refine wpIn_mono (hb _ hg2 ⟨_, hl2⟩) ?_
        have hkeepO : ∀ (A B : World), GrownL [w.heap.size + 1] A B → Keeps O A B := fun A B h => Keeps.of_grown h (fun o ho hm => by simp at hm; subst hm; exact notin O _ hO (by omega) (Nat.le_refl _) ho)
        have fin : ∀ (jump : Option Code) (W3 : World), Keeps ([w.heap.size, w.heap.size + 1] ++ O) (Wa.putObj (w.heap.size + 1) (.loop { rec .ready none with state := .busy })) W3 →
            (Instr.endRound (w.heap.size + 1) jump).run P W3 = .ok (.bool jump.isNone) (W3.putObj (w.heap.size + 1) (.loop (rec (if jump.isNone then .ready else .done) jump))) ∧
            W3.heap[w.heap.size + 1]? = some (.loop { rec .ready none with state := .busy }) ∧
            (W3.putObj (w.heap.size + 1) (.loop (rec (if jump.isNone then .ready else .done) jump))).heap[w.heap.size + 1]? = some (.loop (rec (if jump.isNone then .ready else .done) jump)) ∧
            (W3.putObj (w.heap.size + 1) (.loop (rec (if jump.isNone then .ready else .done) jump))).heap[w.heap.size]? = some (.deferred (some [])) ∧
            Keeps O W (W3.putObj (w.heap.size + 1) (.loop (rec (if jump.isNone then .ready else .done) jump))) := fun jump W3 hk3 => by
          have hl3 := hk3.obj hl2 (by simp)
          have := run_endRound (P := P) jump hl3
          rw [hrec] at this ⊢
          refine ⟨this, by rw [hrec] at hl3; exact hl3, World.putObj_heap_same (Array.getElem?_eq_some_iff.1 hl3).1, (World.putObj_heap_other (by omega)).trans (hk3.obj hk2 (by simp)), ?_⟩
          exact ((hka.mono (fun o ho => by simp [ho])).trans (hkeepO _ _ hg2)).trans ((hk3.mono (fun o ho => by simp [ho])).trans (hkeepO _ _ (GrownL.putObj _ _ _ (by simp))))
        have up : ∀ (W3 : World) (o : Obj), GrownL (w.heap.size :: (w.heap.size + 1) :: O) W3 (W3.putObj (w.heap.size + 1) o) := fun W3 o => GrownL.putObj _ _ _ (by simp)
        rintro e a3 W3 hp
        cases e with
        | normal =>
          obtain ⟨hk3, hi3⟩ := hp
          obtain ⟨hr, hl3, hl4, hk4, hkk⟩ := fin none W3 hk3
          exact ⟨_, _, hr, .inl ⟨rfl, ⟨hO, hI O O _ _ _ hO hi3 (up _ _) (Claims.refl _ _ _), hl4, hk4⟩⟩, hkk⟩
        | ret =>
          obtain ⟨hk3, hi3⟩ := hp
          obtain ⟨hr, hl3, hl4, hk4, hkk⟩ := fin (some .ret) W3 hk3
          exact ⟨_, _, hr, .inr ⟨rfl, hO, .ret, hIx _ O _ _ _ hO hi3 (up _ _), hl4, hk4⟩, hkk⟩
        | exit id =>
          obtain ⟨hk3, hi3⟩ := hp
          obtain ⟨hr, hl3, hl4, hk4, hkk⟩ := fin (some (.exit id)) W3 hk3
          exact ⟨_, _, hr, .inr ⟨rfl, hO, .exit id, hIx _ O _ _ _ hO hi3 (up _ _), hl4, hk4⟩, hkk⟩
        | goto t =>
          obtain ⟨hk3, hi3⟩ := hp
          obtain ⟨hr, hl3, hl4, hk4, hkk⟩ := fin (some (.goto t)) W3 hk3
          exact ⟨_, _, hr, .inr ⟨rfl, hO, .goto t, hIx _ O _ _ _ hO hi3 (up _ _), hl4, hk4⟩, hkk⟩
        | panic ch => exact hp.elim
        | outgrown => exact hp.elim
      | exit id => exact hp.elim
      | goto t => exact hp.elim
      | ret => exact hp.elim
      | panic ch => exact hp.elim
      | outgrown => exact hp.elim
    · -- behind the iterator
      have up : ∀ (O : List Nat) (W3 : World) (o : Obj), GrownL (w.heap.size :: (w.heap.size + 1) :: O) W3 (W3.putObj (w.heap.size + 1) o) := fun O W3 o => GrownL.putObj _ _ _ (by simp)
      rintro e W2 ⟨⟨v, rfl⟩, (⟨O, xs, hS, ⟨hO, hi, hl, hk⟩, hD⟩ | ⟨O, pre, hSp, hO, c, hi, hl, hk⟩)⟩
      · exact ⟨none, _, by have := run_endLoop (P := P) hl (by rw [hrec]; simp); rw [hrec] at this; exact this, hdone O xs _ hO hS (hI O O _ _ _ hO hi (up _ _ _) (Claims.refl _ _ _)) ⟨W2, hD, GrownL.putObj _ _ _ (by simp)⟩ ((World.putObj_heap_other (by omega)).trans hk)⟩
      · exact ⟨some c, _, by have := run_endLoop (P := P) hl (by rw [hrec]; simp); rw [hrec] at this; exact this, hstop c O pre _ hO hSp (hIx c O _ _ _ hO hi (up _ _ _)) ((World.putObj_heap_other (by omega)).trans hk)⟩

set_option maxHeartbeats 1000000 in
/-- The same within a round of the loop l0: one block of book-keeping, and no mark. -/
theorem wpIn_rangeKN {α : Type} {P : Program} {n l0 : Nat} {r0 : Loop} {g : Operand} {ps : Array Tmp} {assign body : Code} {Q : Exit → Act → World → Prop} {a : Act} {w : World}
    {gf : Nat} {lb : Array Value} (hl0 : w.heap[l0]? = some (.loop r0)) (hg : a.eval g = .func (.func gf) #[] lb) (eg : ∀ args w, (callFunc gf args).run P w = .ok (.enter gf args) w)
    {encs : α → Array Value} {S Sp : List α → Prop} {W0 : World} {O0 : List Nat} {K D : World → Prop} (hseq : SeqK P gf lb encs S Sp W0 O0 K D) (hb0 : Below W0.heap.size W0 w) (hO0 : ∀ o ∈ O0, o < w.heap.size) (hps : ∀ x, (encs x).size = ps.size)
    (I : List Nat → List α → World → Prop) (Ix : Code → List Nat → List α → World → Prop) (hK : ∀ O s W, I O s W → K W)
    (h0 : ∀ W', Below w.heap.size w W' → w.heap.size + 1 ≤ W'.heap.size → I O0 [] W')
    (hI : ∀ O O' s W1 W2, From O0 (w.heap.size + 1) O → I O s W1 → GrownL (w.heap.size :: O) W1 W2 → Claims O O' W1 W2 → I O' s W2)
    (hIx : ∀ c O s W1 W2, From O0 (w.heap.size + 1) O → Ix c O s W1 → GrownL (w.heap.size :: O) W1 W2 → Ix c O s W2)
    (hround : ∀ O pre x W, From O0 (w.heap.size + 1) O → I O pre W → w.heap.size + 1 ≤ W.heap.size → Sp (pre ++ [x]) →
      assign.wpIn (Fence.wide.inRound w.heap.size) 2 P (Exit.then (fun a₁ W₁ => Keeps (w.heap.size :: O) W W₁ ∧
        ∀ W₂, GrownL [w.heap.size] W₁ W₂ → HasLoop w.heap.size W₂ → body.wpIn (Fence.wide.inRound w.heap.size) 2 P (postK [w.heap.size] I Ix O (pre ++ [x]) W₂) a₁ W₂) (fun _ _ _ => False))
        { tmps := (ps.zip (encs x)).foldl (fun t (p, v) => t.setIfInBounds p v) a.tmps, defers := [] } W)
    (hdone : ∀ O xs W, From O0 (w.heap.size + 1) O → S xs → I O xs W → (∃ W1, D W1 ∧ GrownL [w.heap.size] W1 W) → Q .normal a W)
    (hstop : ∀ c O pre W, From O0 (w.heap.size + 1) O → Sp pre → Ix c O pre W → c.wpIn (Fence.wide.inRound l0) n P Q a W) :
    (Code.rangeFunc g ps assign body).wpIn (Fence.wide.inRound l0) n P Q a w := by
  refine wpIn_rangeFunc ?_
  intro fn hfn
  rw [show (Fence.wide.inRound l0).round = some l0 from rfl]
  obtain ⟨rec, hrec⟩ : ∃ rec : LoopState → Option Code → Loop, rec = fun st pe => { state := st, pending := pe, fn, tmps := a.tmps, params := ps, assign, body, defers := r0.defers } := ⟨_, rfl⟩
  obtain ⟨W1, hW1⟩ : ∃ W1, w.alloc (.loop (rec .ready none)) = W1 := ⟨_, rfl⟩
  have hL1 : W1.heap[w.heap.size]? = some (.loop (rec .ready none)) := by rw [← hW1]; exact World.alloc_heap_new w _
  have hS1 : W1.heap.size = w.heap.size + 1 := by rw [← hW1]; simp
  have hbw : Below w.heap.size w W1 := by rw [← hW1]; exact (Below.refl _ w).alloc (Nat.le_refl _) _
  have hb1 : Below W0.heap.size W0 W1 := hb0.trans (hbw.mono hb0.size)
  have notin : ∀ O, From O0 (w.heap.size + 1) O → w.heap.size ∉ O := fun O hO hm => by
    rcases hO _ hm with h | h
    · have := hO0 _ h; omega
    · omega
  refine ⟨w.heap.size, [], W1, { target := .fn (.func gf) lb, args := #[.func (.yield w.heap.size) #[] #[]] }, W1, gf,
    #[.func (.yield w.heap.size) #[] #[]] ++ lb, W1, ?_, ?_, ?_, ?_, fun h => (by cases h), ?_⟩
  · rw [← hW1, hrec]; exact run_enterLoop_inner hl0 _ _ _ _ _
  · simp only [resolve, hg]
    simp [go_sem]
  · intro f' _; exact trivial
  · simp [invoke, go_sem, eg]
  · refine CallsIn.inRound l0 (callsIn_wide.2 ?_)
    refine (hseq w.heap.size
      (fun O pre W => From O0 (w.heap.size + 1) O ∧ I O pre W ∧ W.heap[w.heap.size]? = some (.loop (rec .ready none)))
      (fun O pre W => From O0 (w.heap.size + 1) O ∧ ∃ c, Ix c O pre W ∧ W.heap[w.heap.size]? = some (.loop (rec .done (some c))))
      W1 hb1 (fun O s W h => hK O s W h.2.1) ?_ ?_ ?_ ?_).mono ?_
    · exact ⟨(fun o ho => .inl ho), h0 W1 hbw (by omega), hL1⟩
    · rintro O O' s X Y ⟨hO, hi, hl⟩ hg' hcl
      have hl' := (Array.getElem?_eq_some_iff.1 hl).1
      exact ⟨(fun o ho => by rcases hcl o ho with h | h; exact hO o h; exact .inr (by omega)), hI O O' s X Y hO hi (hg'.mono (fun b hb => by simp [hb])) hcl, (hg'.block _ hl' (notin O hO)).trans hl⟩
    · rintro O s X Y ⟨hO, c, hi, hl⟩ hg'
      have hl' := (Array.getElem?_eq_some_iff.1 hl).1
      exact ⟨hO, c, hIx c O s X Y hO hi (hg'.mono (fun b hb => by simp [hb])), (hg'.block _ hl' (notin O hO)).trans hl⟩
    · -- one round
      rintro O pre x W ⟨hO, hi, hl⟩ hsp
      have hlt : w.heap.size < W.heap.size := (Array.getElem?_eq_some_iff.1 hl).1
      have hy := run_yield (P := P) (args := encs x) hl (by rw [hrec]; exact hps x)
      rw [hrec] at hy
      refine ⟨fn, _, assign, body, hy, roundIn_of_wpIn trivial (wpIn_mono (hround O pre x W hO hi (by omega) hsp) ?_)⟩
      clear hy
      rintro e a₁ Wa hp
      cases e with
      | normal =>
        obtain ⟨hka, hb⟩ := hp
        have hla := hka.obj hl (by simp)
        have hlta : w.heap.size < Wa.heap.size := (Array.getElem?_eq_some_iff.1 hla).1
        refine ⟨_, run_beginRound hla (by rw [hrec]), ?_⟩
        have hl2 : (Wa.putObj w.heap.size (.loop { rec .ready none with state := .busy })).heap[w.heap.size]? = some (.loop { rec .ready none with state := .busy }) := World.putObj_heap_same hlta
        have hg2 : GrownL [w.heap.size] Wa (Wa.putObj w.heap.size (.loop { rec .ready none with state := .busy })) := GrownL.putObj _ _ _ (by simp)
        refine wpIn_mono (hb _ hg2 ⟨_, hl2⟩) ?_
        have hkeepO : ∀ (A B : World), GrownL [w.heap.size] A B → Keeps O A B := fun A B h => Keeps.of_grown h (fun o ho hm => by simp at hm; subst hm; exact notin O hO ho)
        have fin : ∀ (jump : Option Code) (W3 : World), Keeps ([w.heap.size] ++ O) (Wa.putObj w.heap.size (.loop { rec .ready none with state := .busy })) W3 →
            (Instr.endRound w.heap.size jump).run P W3 = .ok (.bool jump.isNone) (W3.putObj w.heap.size (.loop (rec (if jump.isNone then .ready else .done) jump))) ∧
            W3.heap[w.heap.size]? = some (.loop { rec .ready none with state := .busy }) ∧
            (W3.putObj w.heap.size (.loop (rec (if jump.isNone then .ready else .done) jump))).heap[w.heap.size]? = some (.loop (rec (if jump.isNone then .ready else .done) jump)) ∧
            Keeps O W (W3.putObj w.heap.size (.loop (rec (if jump.isNone then .ready else .done) jump))) := fun jump W3 hk3 => by
          have hl3 := hk3.obj hl2 (by simp)
          have := run_endRound (P := P) jump hl3
          rw [hrec] at this ⊢
          refine ⟨this, by rw [hrec] at hl3; exact hl3, World.putObj_heap_same (Array.getElem?_eq_some_iff.1 hl3).1, ?_⟩
          exact ((hka.mono (fun o ho => by simp [ho])).trans (hkeepO _ _ hg2)).trans ((hk3.mono (fun o ho => by simp [ho])).trans (hkeepO _ _ (GrownL.putObj _ _ _ (by simp))))
        have up : ∀ (W3 : World) (o : Obj), GrownL (w.heap.size :: O) W3 (W3.putObj w.heap.size o) := fun W3 o => GrownL.putObj _ _ _ (by simp)
        rintro e a3 W3 hp
        cases e with
        | normal =>
          obtain ⟨hk3, hi3⟩ := hp
          obtain ⟨hr, hl3, hl4, hkk⟩ := fin none W3 hk3
          exact ⟨_, _, hr, .inl ⟨rfl, ⟨hO, hI O O _ _ _ hO hi3 (up _ _) (Claims.refl _ _ _), hl4⟩⟩, hkk⟩
        | ret =>
          obtain ⟨hk3, hi3⟩ := hp
          obtain ⟨hr, hl3, hl4, hkk⟩ := fin (some .ret) W3 hk3
          exact ⟨_, _, hr, .inr ⟨rfl, hO, .ret, hIx _ O _ _ _ hO hi3 (up _ _), hl4⟩, hkk⟩
        | exit id =>
          obtain ⟨hk3, hi3⟩ := hp
          obtain ⟨hr, hl3, hl4, hkk⟩ := fin (some (.exit id)) W3 hk3
          exact ⟨_, _, hr, .inr ⟨rfl, hO, .exit id, hIx _ O _ _ _ hO hi3 (up _ _), hl4⟩, hkk⟩
        | goto t =>
          obtain ⟨hk3, hi3⟩ := hp
          obtain ⟨hr, hl3, hl4, hkk⟩ := fin (some (.goto t)) W3 hk3
          exact ⟨_, _, hr, .inr ⟨rfl, hO, .goto t, hIx _ O _ _ _ hO hi3 (up _ _), hl4⟩, hkk⟩
        | panic ch => exact hp.elim
        | outgrown => exact hp.elim
      | exit id => exact hp.elim
      | goto t => exact hp.elim
      | ret => exact hp.elim
      | panic ch => exact hp.elim
      | outgrown => exact hp.elim
    · -- behind the iterator
      have up : ∀ (O : List Nat) (W3 : World) (o : Obj), GrownL (w.heap.size :: O) W3 (W3.putObj w.heap.size o) := fun O W3 o => GrownL.putObj _ _ _ (by simp)
      rintro e W2 ⟨⟨v, rfl⟩, (⟨O, xs, hS, ⟨hO, hi, hl⟩, hD⟩ | ⟨O, pre, hSp, hO, c, hi, hl⟩)⟩
      · exact ⟨none, _, by have := run_endLoop (P := P) hl (by rw [hrec]; simp); rw [hrec] at this; exact this, hdone O xs _ hO hS (hI O O _ _ _ hO hi (up _ _ _) (Claims.refl _ _ _)) ⟨W2, hD, GrownL.putObj _ _ _ (by simp)⟩⟩
      · exact ⟨some c, _, by have := run_endLoop (P := P) hl (by rw [hrec]; simp); rw [hrec] at this; exact this, hstop c O pre _ hO hSp (hIx c O _ _ _ hO hi (up _ _ _))⟩
end Go.Proofs.YtlhgpeelenelbaaGreatDoor

/- Plain mathematics: what a set leaves of a span, from its runs. -/
namespace Go.Proofs.YtlhgpeelenelbaaGreatDoor

def notH (H : Int → Bool) (m : Int) : Bool := !H m
def gapStep (s : List (Int × Int) × Int) (x : Int × Int) : List (Int × Int) × Int := (if s.2 < x.1 then s.1 ++ [(s.2, x.1 - 1)] else s.1, x.2 + 1)
/-- The gaps ahead of the runs that have come, and the integer behind the last run. -/
def gapsAt (lo : Int) (p : List (Int × Int)) : List (Int × Int) × Int := p.foldl gapStep ([], lo)
theorem gapsAt_nil (lo : Int) : gapsAt lo [] = ([], lo) := rfl
theorem gapsAt_snoc (lo : Int) (p : List (Int × Int)) (x : Int × Int) : gapsAt lo (p ++ [x]) = gapStep (gapsAt lo p) x := by simp [gapsAt, List.foldl_append]

structure GapInv (H : Int → Bool) (lo : Int) (k : Nat) (g : List (Int × Int)) (at_ : Int) : Prop where
  lo_le : lo ≤ at_
  le : at_ ≤ lo + k
  none : ∀ m, at_ ≤ m → m < lo + k → H m = false
  eq : spn (notH H) lo (at_ - lo).toNat = g
  last : at_ = lo ∨ H (at_ - 1) = true

theorem GapInv.full {H : Int → Bool} {lo : Int} {k : Nat} {g : List (Int × Int)} {at_ : Int} (h : GapInv H lo k g at_) : spn (notH H) lo k = if at_ < lo + k then g ++ [(at_, lo + k - 1)] else g := by
  obtain ⟨h1, h2, h3, h4, h5⟩ := h
  split
  · rename_i hlt
    have e := spn_run (notH H) lo (at_ - lo).toNat (by
      rcases h5 with h5 | h5
      · left; omega
      · right; rw [show lo + ((at_ - lo).toNat : Int) - 1 = at_ - 1 by omega]; simp [notH, h5]) (lo + k - 1 - at_).toNat (fun m m1 m2 => by
        simp [notH, h3 m (by omega) (by omega)])
    rw [show (at_ - lo).toNat + (lo + k - 1 - at_).toNat + 1 = k by omega, h4] at e
    rw [e]
    congr 2
    apply Prod.ext <;> simp <;> omega
  · rw [← h4, show (at_ - lo).toNat = k by omega]

theorem gap_more {H : Int → Bool} {lo : Int} {k : Nat} {p : List (Int × Int)} (h : GapInv H lo k (gapsAt lo p).1 (gapsAt lo p).2) (hH : H (lo + k) = true) : GapInv H lo (k + 1) (gapsAt lo (more p (lo + k))).1 (gapsAt lo (more p (lo + k))).2 := by
  have hf := h.full
  obtain ⟨h1, h2, h3, h4, h5⟩ := h
  have hs : spn (notH H) lo (k + 1) = spn (notH H) lo k := by
    show (if notH H (lo + k) = true then _ else _) = _
    rw [if_neg (by simp [notH, hH])]
  have key : ∀ l, gapsAt lo l = (spn (notH H) lo k, lo + k + 1) → GapInv H lo (k + 1) (gapsAt lo l).1 (gapsAt lo l).2 := by
    intro l e
    rw [e]
    refine ⟨?_, ?_, ?_, ?_, ?_⟩
    · show lo ≤ lo + (k : Int) + 1; omega
    · show lo + (k : Int) + 1 ≤ lo + ((k + 1 : Nat) : Int); omega
    · intro m m1 m2
      have m1' : lo + (k : Int) + 1 ≤ m := m1
      omega
    · show spn (notH H) lo (lo + (k : Int) + 1 - lo).toNat = spn (notH H) lo k
      rw [show (lo + (k : Int) + 1 - lo).toNat = k + 1 by omega, hs]
    · right
      show H (lo + (k : Int) + 1 - 1) = true
      rw [show lo + (k : Int) + 1 - 1 = lo + k by omega, hH]
  apply key
  rcases list_cases p with rfl | ⟨i, x, rfl⟩
  · rw [more_empty, show [(lo + (k : Int), lo + (k : Int))] = [] ++ [(lo + (k : Int), lo + (k : Int))] from rfl, gapsAt_snoc, hf]
    simp only [gapStep]
  · rw [more_snoc]
    rw [gapsAt_snoc] at h2 hf
    have h2' : x.2 + 1 ≤ lo + (k : Int) := h2
    split
    · rename_i hx
      rw [gapsAt_snoc]
      have hf2 : spn (notH H) lo k = (gapStep (gapsAt lo i) x).1 := hf.trans (if_neg (by show ¬ (x.2 + 1 < lo + (k : Int)); omega))
      show ((gapStep (gapsAt lo i) x).1, _) = _
      rw [hf2]
    · rename_i hx
      rw [gapsAt_snoc, gapsAt_snoc]
      have c : (gapStep (gapsAt lo i) x).2 < lo + (k : Int) := by show x.2 + 1 < lo + (k : Int); omega
      have hf2 := hf.trans (if_pos c)
      show (if (gapStep (gapsAt lo i) x).2 < lo + (k : Int) then _ else _, lo + (k : Int) + 1) = _
      rw [if_pos c, hf2]

theorem gap_inv (H : Int → Bool) (lo : Int) : ∀ k : Nat, GapInv H lo k (gapsAt lo (spn H lo k)).1 (gapsAt lo (spn H lo k)).2
  | 0 => ⟨Int.le_refl _, by show lo ≤ lo + ((0 : Nat) : Int); omega, (fun m h1 h2 => by have h1' : lo ≤ m := h1; omega), by show spn (notH H) lo (lo - lo).toNat = []; rw [show (lo - lo).toNat = 0 by omega]; rfl, .inl rfl⟩
  | k + 1 => by
    have ih := gap_inv H lo k
    unfold spn
    split
    · rename_i hH
      exact gap_more ih hH
    · rename_i hH
      obtain ⟨h1, h2, h3, h4, h5⟩ := ih
      refine ⟨h1, by omega, fun m m1 m2 => ?_, h4, h5⟩
      by_cases c : m < lo + k
      · exact h3 m m1 c
      · obtain rfl : m = lo + k := by omega
        simpa using hH

/-- What is yielded ahead of a run. -/
theorem gap_round {H : Int → Bool} {lo : Int} {k : Nat} {pre : List (Int × Int)} {x : Int × Int} (h : pre ++ [x] = spn H lo k) :
    (gapStep (gapsAt lo pre) x).1 = spn (notH H) lo (x.2 + 1 - lo).toNat ∧ lo ≤ x.2 + 1 ∧ x.2 + 1 ≤ lo + k := by
  have hi := gap_inv H lo k
  rw [← h, gapsAt_snoc] at hi
  exact ⟨hi.eq.symm, hi.lo_le, hi.le⟩
/-- And behind the last one. -/
theorem gap_done {H : Int → Bool} {lo hi : Int} (h : lo ≤ hi + 1) {p : List (Int × Int)} (hp : p = spn H lo (hi + 1 - lo).toNat) :
    spn (notH H) lo (hi + 1 - lo).toNat = (if (gapsAt lo p).2 ≤ hi then (gapsAt lo p).1 ++ [((gapsAt lo p).2, hi)] else (gapsAt lo p).1) ∧ lo ≤ (gapsAt lo p).2 ∧ (gapsAt lo p).2 ≤ hi + 1 ∧ (gapsAt lo p).1 = spn (notH H) lo ((gapsAt lo p).2 - lo).toNat := by
  subst hp
  have hi' := gap_inv H lo (hi + 1 - lo).toNat
  have e := hi'.full
  refine ⟨?_, hi'.lo_le, by have := hi'.le; omega, hi'.eq.symm⟩
  rw [e]
  by_cases c : (gapsAt lo (spn H lo (hi + 1 - lo).toNat)).2 ≤ hi
  · rw [if_pos (by omega), if_pos c]
    congr 2
    apply Prod.ext <;> simp <;> omega
  · rw [if_neg (by omega), if_neg c]
end Go.Proofs.YtlhgpeelenelbaaGreatDoor

/- Contracts of gaps and its closure: what a set leaves of a span, as an iterator. -/
namespace Go.Proofs.YtlhgpeelenelbaaGreatDoor
open Go.RowKit
attribute [local go_sem] Oper.semAt_some

set_option maxHeartbeats 400000 in
theorem gaps_any (A : Option Addr) (n c : Nat) (A' : Option Addr) (n' c' : Nat) (lo hi : Int) (w : World) :
    Calls Tryz.prog 45 #[.agg #[.slice A n c, .slice A' n' c'], sv2 lo hi] w fun e w' => e = .returned (.func (.func 85) #[] #[.pointer (some ⟨w.heap.size + 1, 0, none⟩), .pointer (some ⟨w.heap.size, 0, none⟩)]) ∧
      w' = (w.alloc (.cells #[.slice A n c, .slice A' n' c'] 25)).alloc (.cells #[.int .i64 lo, .int .i64 hi] 27) := by
  go_enter Tryz.func45, Tryz.ntmps45
  go_wp2_with fail
  go_ret
  exact ⟨rfl, rfl⟩
theorem enters_gaps1 (args : Array Value) (w : World) : (callFunc 85 args).run Tryz.prog w = .ok (.enter 85 args) w :=
  enters_of Tryz.func85 (by kernel_rfl) rfl args w

def SomeGaps (xs : List Lot) (lo hi : Int) (p : List S2) : Prop := ∃ k : Nat, lo + k ≤ hi + 1 ∧ p = spn (notH (setB xs)) lo k
def AllGaps (xs : List Lot) (lo hi : Int) (p : List S2) : Prop := p = spn (notH (setB xs)) lo (hi + 1 - lo).toNat
def GapB (n : Nat) : List Nat := [n, n + 1, n + 2, n + 3, n + 4, n + 5]
theorem GapB.mem {n b : Nat} (h1 : n ≤ b) (h2 : b ≤ n + 5) : b ∈ GapB n := by simp [GapB]; omega
theorem GapB.bd {n b : Nat} (h : b ∈ GapB n) : n ≤ b ∧ b ≤ n + 5 := by simp [GapB] at h; omega

/-- What gaps keeps between two runs. -/
def GapI (n l : Nat) (lo : Int) (J : List Nat → List S2 → World → Prop) (O : List Nat) (pre : List S2) (V : World) : Prop :=
  J (O ++ GapB n) (gapsAt lo pre).1 V ∧ V.cell? ⟨n, 0, none⟩ = some (.func (.yield l) #[] #[]) ∧ V.cell? ⟨n + 1, 0, none⟩ = some (.int .i64 (gapsAt lo pre).2) ∧ V.frozen? ⟨n + 1, 0, none⟩ = false
def GapX (n : Nat) (lo : Int) (Jx : List Nat → List S2 → World → Prop) (c : Code) (O : List Nat) (pre : List S2) (V : World) : Prop :=
  c = .ret ∧ ∃ Oy, (∀ b ∈ O ++ GapB n, b ∈ Oy) ∧ Jx Oy (gapsAt lo pre).1 V
theorem claims_app {O O' B : List Nat} {W1 W2 : World} (h : Claims O O' W1 W2) : Claims (O ++ B) (O' ++ B) W1 W2 := fun o ho => by
  rcases List.mem_append.1 ho with ho | ho
  · rcases h o ho with h | h
    · exact .inl (List.mem_append.2 (.inl h))
    · exact .inr h
  · exact .inl (List.mem_append.2 (.inr ho))
theorem claims_sub {O O' : List Nat} {W1 W2 : World} (h : ∀ o ∈ O', o ∈ O) : Claims O O' W1 W2 := fun o ho => .inl (h o ho)

set_option maxHeartbeats 8000000 in
set_option maxRecDepth 1000000 in
theorem gaps_seq (gs gx : Nat) (A : Option Addr) (m c : Nat) (A' : Option Addr) (m' c' : Nat) (ts : List T3) (ss : List S2) (lo hi : Int) (w0 : World)
    (hok : AllOk ts ss) (k1 : ts.length ≤ 24) (k2 : ss.length ≤ 40) (hrm : RM w0.heap.size (.agg #[.slice A m c, .slice A' m' c']) ts ss w0)
    (hs0 : w0.cell? ⟨gs, 0, none⟩ = some (.slice A m c)) (hs1 : w0.cell? ⟨gs, 1, none⟩ = some (.slice A' m' c'))
    (hx0 : w0.cell? ⟨gx, 0, none⟩ = some (.int .i64 lo)) (hx1 : w0.cell? ⟨gx, 1, none⟩ = some (.int .i64 hi))
    (h2 : 0 ≤ lo) (h3 : lo ≤ hi + 1) (h4 : hi ≤ 1048576) :
    SeqK Tryz.prog 85 #[.pointer (some ⟨gx, 0, none⟩), .pointer (some ⟨gs, 0, none⟩)] (fun x : S2 => #[sv2 x.1 x.2]) (AllGaps (lotsOf ts ss) lo hi) (SomeGaps (lotsOf ts ss) lo hi) w0 [] (fun V => V.cell? ⟨gx, 1, none⟩ = some (.int .i64 hi)) (fun _ => True) := by
  intro l J Jx W hW hK h0 hJ hJx hY
  have F0 : FourD gs gx (.slice A m c) (.slice A' m' c') (.int .i64 lo) (.int .i64 hi) W := FourD.below (W := w0) ⟨hs0, hs1, hx0, hx1⟩ hW (Nat.le_refl _)
  obtain ⟨y0, y1, z0, z1⟩ := F0
  have hls : gs < W.heap.size := World.block_lt_of_cell? _ _ y0
  have hlx : gx < W.heap.size := World.block_lt_of_cell? _ _ z0
  have HRM := Lib.hid fun (W' : World) (hb : Below W.heap.size W W') => hrm.up (Nat.le_trans hW.size hb.size) (hW.trans (hb.mono hW.size))
  have HOK := Lib.hid hok
  have HK := Lib.hid hK
  have H0 := Lib.hid h0
  have HJ := Lib.hid hJ
  have HJx := Lib.hid hJx
  have HY := Lib.hid hY
  have HMR := Lib.hid fun (k : Nat) (pre : List S2) (x : S2) (h : pre ++ [x] = spn (setB (lotsOf ts ss)) lo k) => gap_round h
  have HMD := Lib.hid fun (p : List S2) (h : p = spn (setB (lotsOf ts ss)) lo (hi + 1 - lo).toNat) => gap_done h3 h
  have HMI := Lib.hid fun (k : Nat) => gap_inv (setB (lotsOf ts ss)) lo k
  have y0' : ((W.alloc (.cells #[.func (.yield l) #[] #[]] 29)).alloc (.cells #[.int .i64 lo] 3)).cell? ⟨gs, 0, none⟩ = some (.slice A m c) := (World.cell?_alloc_lt _ _ _ (by simp; omega)).trans ((World.cell?_alloc_lt _ _ _ hls).trans y0)
  have y1' : ((W.alloc (.cells #[.func (.yield l) #[] #[]] 29)).alloc (.cells #[.int .i64 lo] 3)).cell? ⟨gs, 1, none⟩ = some (.slice A' m' c') := (World.cell?_alloc_lt _ _ _ (by simp; omega)).trans ((World.cell?_alloc_lt _ _ _ hls).trans y1)
  have z0' : ((W.alloc (.cells #[.func (.yield l) #[] #[]] 29)).alloc (.cells #[.int .i64 lo] 3)).cell? ⟨gx, 0, none⟩ = some (.int .i64 lo) := (World.cell?_alloc_lt _ _ _ (by simp; omega)).trans ((World.cell?_alloc_lt _ _ _ hlx).trans z0)
  have z1' : ((W.alloc (.cells #[.func (.yield l) #[] #[]] 29)).alloc (.cells #[.int .i64 lo] 3)).cell? ⟨gx, 1, none⟩ = some (.int .i64 hi) := (World.cell?_alloc_lt _ _ _ (by simp; omega)).trans ((World.cell?_alloc_lt _ _ _ hlx).trans z1)
  have z0'' : (W.alloc (.cells #[.func (.yield l) #[] #[]] 29)).cell? ⟨gx, 0, none⟩ = some (.int .i64 lo) := (World.cell?_alloc_lt _ _ _ hlx).trans z0
  clear hok hK h0 hJ hJx hY hrm hs0 hs1 hx0 hx1
  refine (callsIn_wide (n := 3)).1 ?_
  refine callsIn_of_wp_marks Tryz.func85 rfl trivial ?_ rfl
  simp only [Tryz.ntmps85, List.size_toArray, List.length_cons, List.length_nil, Nat.reduceAdd, Nat.reduceSub, Array.replicate_succ, Array.replicate_zero, List.push_toArray, List.append_toArray, List.nil_append, List.cons_append]
  gi_wp2_with fail
  refine ⟨trivial, (callsIn_wide.2 (runs_any A m c A' m' c' lo hi _)).mono ?_⟩
  rintro e w2 ⟨rfl, rfl⟩
  clear y0' y1' z0' z1' z0''
  gi_wp2_with fail
  have hb2 : Below W.heap.size W ((((W.alloc (.cells #[.func (.yield l) #[] #[]] 29)).alloc (.cells #[.int .i64 lo] 3)).alloc (.cells #[.slice A m c, .slice A' m' c'] 25)).alloc (.cells #[.int .i64 lo, .int .i64 hi] 27)) :=
    ((((Below.refl _ _).alloc (Nat.le_refl _) _).alloc (by simp) _).alloc (by simp; omega) _).alloc (by simp; omega) _
  obtain ⟨W0, hW0⟩ : ∃ W0, ((((W.alloc (.cells #[.func (.yield l) #[] #[]] 29)).alloc (.cells #[.int .i64 lo] 3)).alloc (.cells #[.slice A m c, .slice A' m' c'] 25)).alloc (.cells #[.int .i64 lo, .int .i64 hi] 27)) = W0 := ⟨_, rfl⟩
  have hz0 : W0.heap.size = W.heap.size + 4 := by rw [← hW0]; simp
  have a0 : W0.cell? ⟨W.heap.size, 0, none⟩ = some (.func (.yield l) #[] #[]) := by rw [← hW0]; simp [go_sem]
  have a1 : W0.cell? ⟨W.heap.size + 1, 0, none⟩ = some (.int .i64 lo) := by rw [← hW0]; simp [go_sem]
  have a1f : W0.frozen? ⟨W.heap.size + 1, 0, none⟩ = false := by rw [← hW0]; simp [go_sem]
  have a2 : W0.cell? ⟨W.heap.size + 1 + 1, 0, none⟩ = some (.slice A m c) := by rw [← hW0]; simp [go_sem]
  have a3 : W0.cell? ⟨W.heap.size + 1 + 1, 1, none⟩ = some (.slice A' m' c') := by rw [← hW0]; simp [go_sem]
  have a4 : W0.cell? ⟨W.heap.size + 1 + 1 + 1, 0, none⟩ = some (.int .i64 lo) := by rw [← hW0]; simp [go_sem]
  have a5 : W0.cell? ⟨W.heap.size + 1 + 1 + 1, 1, none⟩ = some (.int .i64 hi) := by rw [← hW0]; simp [go_sem]
  rw [hW0] at hb2 ⊢
  have notin : ∀ O k, From [] (W0.heap.size + 2) O → k < W0.heap.size → k ∉ W0.heap.size :: (W0.heap.size + 1) :: O := fun O k hO hk hm => by
    rcases List.mem_cons.1 hm with e | hm
    · omega
    rcases List.mem_cons.1 hm with e | hm
    · omega
    · rcases hO _ hm with h | h
      · cases h
      · omega
  have inB : ∀ O b, b ∈ W0.heap.size :: (W0.heap.size + 1) :: O → b ∈ O ++ GapB W.heap.size := fun O b hb => by
    rcases List.mem_cons.1 hb with e | hb
    · exact List.mem_append.2 (.inr (GapB.mem (by omega) (by omega)))
    rcases List.mem_cons.1 hb with e | hb
    · exact List.mem_append.2 (.inr (GapB.mem (by omega) (by omega)))
    · exact List.mem_append.2 (.inl hb)
  have HN := Lib.hid notin
  have HB := Lib.hid inB
  have HA := Lib.hid (And.intro a0 (And.intro a1 a1f))
  have HZ := Lib.hid hz0
  have HB2 := Lib.hid hb2
  have HSQ := Lib.hid ((runs_seq (W.heap.size + 1 + 1) (W.heap.size + 1 + 1 + 1) A m c A' m' c' ts ss lo hi W0 HOK.out k1 k2 (HRM.out W0 hb2) a2 a3 a4 a5 h2 h3 h4).toK (fun _ => True))
  clear notin inB a0 a1 a1f a2 a3 a4 a5 hb2 hW0 hz0 y0 y1 z0 z1
  refine wpIn_rangeK (gf := 81) (lb := #[.pointer (some ⟨W.heap.size + 1 + 1, 0, none⟩), .pointer (some ⟨W.heap.size + 1 + 1 + 1, 0, none⟩)]) rfl enters_runs1 HSQ.out (Below.refl _ _) (fun o h => by cases h) (fun _ => rfl)
    (GapI W.heap.size l lo J) (GapX W.heap.size lo Jx) (fun _ _ _ _ => trivial) ?h0 ?hI ?hIx ?round ?done ?stop
  case h0 =>
    intro W' hb hsz
    obtain ⟨a0, a1, a1f⟩ := HA.out
    have hz := HZ.out
    refine ⟨?_, (hb.cell (p := ⟨W.heap.size, 0, none⟩) (by show W.heap.size < _; omega)).trans a0, (hb.cell (p := ⟨W.heap.size + 1, 0, none⟩) (by show W.heap.size + 1 < _; omega)).trans a1, (hb.frozen (p := ⟨W.heap.size + 1, 0, none⟩) (by show W.heap.size + 1 < _; omega)).trans a1f⟩
    refine HJ.out [] _ [] W W' H0.out (GrownL.of_below (HB2.out.trans (hb.mono (by omega)))) fun o ho => .inr ?_
    have := GapB.bd (n := W.heap.size) (by simpa using ho)
    omega
  case hI =>
    rintro O O' s W1 W2 hO ⟨hj, c0, c1, f1⟩ hg hcl
    have hz := HZ.out
    have n0 := HN.out O W.heap.size hO (by omega)
    have n1 := HN.out O (W.heap.size + 1) hO (by omega)
    exact ⟨HJ.out _ _ _ _ _ hj (hg.mono (HB.out O)) (claims_app hcl), hg.cell c0 n0, hg.cell c1 n1, (World.frozen?_of_block (a := ⟨W.heap.size + 1, 0, none⟩) (hg.block _ (World.block_lt_of_cell? _ _ c1) n1)).trans f1⟩
  case hIx =>
    rintro c O s W1 W2 hO ⟨rfl, Oy, hy, hj⟩ hg
    exact ⟨rfl, Oy, hy, HJx.out _ _ _ _ hj (hg.mono fun b hb => hy b (HB.out O b hb))⟩
  case round =>
    rintro O pre ⟨x1, x2⟩ V hO ⟨hj, c0, c1, f1⟩ hsz ⟨k, hk, hek⟩
    have hz := HZ.out
    obtain ⟨r1, r2, r3⟩ := HMR.out k pre (x1, x2) hek
    have t3 := (spn_tot hek).2.2
    simp only at t3 r2 r3
    have HEQ := Lib.hid (gapsAt_snoc lo pre (x1, x2))
    have HR1 := Lib.hid r1
    have HJV := Lib.hid hj
    have HO := Lib.hid hO
    clear r1 hj hO hek hz
    gi_wp2_with fail
    refine ⟨Keeps.of_below ((Below.refl _ _).alloc (Nat.le_refl _) _), fun V2 hg2 _ => ?_⟩
    have hz := HZ.out
    have n0 : W.heap.size ∉ [W0.heap.size + 1] := by simp; omega
    have n1 : W.heap.size + 1 ∉ [W0.heap.size + 1] := by simp; omega
    have n2 : V.heap.size ∉ [W0.heap.size + 1] := by simp; omega
    have b0 : V2.cell? ⟨W.heap.size, 0, none⟩ = some (.func (.yield l) #[] #[]) := hg2.cell (p := ⟨W.heap.size, 0, none⟩) ((World.cell?_alloc_lt _ _ _ (by show W.heap.size < _; omega)).trans c0) n0
    have b1 : V2.cell? ⟨W.heap.size + 1, 0, none⟩ = some (.int .i64 (gapsAt lo pre).2) := hg2.cell (p := ⟨W.heap.size + 1, 0, none⟩) ((World.cell?_alloc_lt _ _ _ (by show W.heap.size + 1 < _; omega)).trans c1) n1
    have b1f : V2.frozen? ⟨W.heap.size + 1, 0, none⟩ = false := (World.frozen?_of_block (a := ⟨W.heap.size + 1, 0, none⟩) ((hg2.block (W.heap.size + 1) (by simp; omega) n1).trans (Below.heap_alloc _ _ _ (by omega)))).trans f1
    have d0 : V2.cell? ⟨V.heap.size, 0, none⟩ = some (.int .i64 x1) := hg2.cell (p := ⟨V.heap.size, 0, none⟩) (by simp [go_sem]) n2
    have d1 : V2.cell? ⟨V.heap.size, 1, none⟩ = some (.int .i64 x2) := hg2.cell (p := ⟨V.heap.size, 1, none⟩) (by simp [go_sem]) n2
    have hs2 : V.heap.size + 1 ≤ V2.heap.size := by have := hg2.size; simpa using this
    have hgV : GrownL (O ++ GapB W.heap.size) V V2 := (GrownL.of_below ((Below.refl _ _).alloc (Nat.le_refl _) _)).trans (hg2.mono fun b hb => HB.out O b (by simp at hb; simp [hb]))
    have HJ2 := Lib.hid (HJ.out _ (V.heap.size :: (O ++ GapB W.heap.size)) _ _ _ HJV.out hgV (Claims.one (Nat.le_refl _) (by omega)))
    have HB1 := Lib.hid b1
    have HBF := Lib.hid (And.intro b0 b1f)
    have W1 : IntKind.i64.wrap (x2 + 1) = x2 + 1 := IntWalk.i64_in _ (by omega)
    have W2 : IntKind.i64.wrap (x1 - 1) = x1 - 1 := IntWalk.i64_in _ (by omega)
    clear hg2 hgV HJV c0 c1 f1
    obtain ⟨at_, hat⟩ : ∃ a, (gapsAt lo pre).2 = a := ⟨_, rfl⟩
    obtain ⟨g, hg⟩ : ∃ g, (gapsAt lo pre).1 = g := ⟨_, rfl⟩
    have hsub : ∀ o ∈ [W0.heap.size, W0.heap.size + 1] ++ O, o ∈ V.heap.size :: (O ++ GapB W.heap.size) := fun o ho => List.mem_cons_of_mem _ (HB.out O o (by simpa using ho))
    have hnot : ∀ o ∈ [W0.heap.size, W0.heap.size + 1] ++ O, o ∉ [W.heap.size + 1] := fun o ho hm => by
      have e : o = W.heap.size + 1 := by simpa using hm
      subst e
      simp at ho
      rcases ho with ho | ho | ho
      · omega
      · omega
      · rcases HO.out _ ho with h | h
        · cases h
        · omega
    -- the end of a round
    have fin : ∀ (W3 : World) (g3 : List S2), J (V.heap.size :: (O ++ GapB W.heap.size)) g3 W3 → g3 = (gapStep (gapsAt lo pre) (x1, x2)).1 → Keeps (V.heap.size :: (O ++ GapB W.heap.size)) V2 W3 →
        Keeps ([W0.heap.size, W0.heap.size + 1] ++ O) V2 (W3.setCell ⟨W.heap.size + 1, 0, none⟩ (.int .i64 (x2 + 1))) ∧ GapI W.heap.size l lo J O (pre ++ [(x1, x2)]) (W3.setCell ⟨W.heap.size + 1, 0, none⟩ (.int .i64 (x2 + 1))) := by
      intro W3 g3 hj3 hg3 hk3
      obtain ⟨b0, b1f⟩ := HBF.out
      have hgs := GrownL.set (bs := [W.heap.size + 1]) W3 ⟨W.heap.size + 1, 0, none⟩ (.int .i64 (x2 + 1)) (by simp)
      have q0 : W3.cell? ⟨W.heap.size, 0, none⟩ = some (.func (.yield l) #[] #[]) := hk3.cell b0 (List.mem_cons_of_mem _ (List.mem_append.2 (.inr (GapB.mem (Nat.le_refl _) (by show W.heap.size ≤ W.heap.size + 5; omega)))))
      have hm1 : W.heap.size + 1 ∈ V.heap.size :: (O ++ GapB W.heap.size) := List.mem_cons_of_mem _ (List.mem_append.2 (.inr (GapB.mem (by omega) (by omega))))
      have q1 := hk3.cell HB1.out hm1
      have q2 : W3.frozen? ⟨W.heap.size + 1, 0, none⟩ = false := (World.frozen?_of_block (a := ⟨W.heap.size + 1, 0, none⟩) (hk3.same _ hm1 (World.block_lt_of_cell? _ _ HB1.out))).trans b1f
      refine ⟨(hk3.mono hsub).trans (Keeps.of_grown hgs hnot), ?_, hgs.cell q0 (by simp), ?_, ?_⟩
      · rw [HEQ.out, ← hg3]
        exact HJ.out _ _ _ _ _ hj3 (hgs.mono fun b hb => by simp at hb; subst hb; exact hm1) (claims_sub fun o ho => List.mem_cons_of_mem _ ho)
      · rw [HEQ.out]
        exact World.cell?_setCell_same' _ _ _ (by rw [q1]; rfl)
      · rw [World.frozen?_setCell]; exact q2
    have FIN := Lib.hid fin
    rw [hg] at HJ2
    rw [hat] at b1
    clear fin
    by_cases hlt : at_ < x1
    · have hst : (gapStep (gapsAt lo pre) (x1, x2)).1 = g ++ [(at_, x1 - 1)] := by
        show (if (gapsAt lo pre).2 < x1 then (gapsAt lo pre).1 ++ [((gapsAt lo pre).2, x1 - 1)] else (gapsAt lo pre).1) = _
        rw [hat, hg, if_pos hlt]
      have hSp : SomeGaps (lotsOf ts ss) lo hi (g ++ [(at_, x1 - 1)]) := ⟨(x2 + 1 - lo).toNat, by omega, by rw [← hst]; exact HR1.out⟩
      obtain ⟨fn, tmps, assign, body, hy, hR⟩ := HY.out _ g (at_, x1 - 1) V2 HJ2.out hSp
      have HST := Lib.hid hst
      have HSUB := Lib.hid hsub
      have HD1 := Lib.hid (And.intro d0 d1)
      have hd : decide (at_ < x1) = true := by simp; omega
      clear hst hSp hsub hnot hat hg hz
      gi_wp2_with fail
      refine (roundIn_go hR).mono ?_
      rintro e W3 ⟨(⟨rfl, hJ3⟩ | ⟨rfl, hJx3⟩), hk3⟩
      · have e1 : W3.cell? ⟨V.heap.size, 1, none⟩ = some (.int .i64 x2) := hk3.cell HD1.out.2 (List.mem_cons_self ..)
        have hm1 : W.heap.size + 1 ∈ V.heap.size :: (O ++ GapB W.heap.size) := List.mem_cons_of_mem _ (List.mem_append.2 (.inr (GapB.mem (by omega) (by omega))))
        have e2 := hk3.cell b1 hm1
        have e3 : W3.frozen? ⟨W.heap.size + 1, 0, none⟩ = false := (World.frozen?_of_block (a := ⟨W.heap.size + 1, 0, none⟩) (hk3.same _ hm1 (World.block_lt_of_cell? _ _ b1))).trans b1f
        have R := Lib.hid (FIN.out W3 _ hJ3 HST.out.symm hk3)
        clear hJ3 hk3 hR hy hm1 b0 b1 b1f d0 d1
        gi_wp2_with fail
        exact R.out
      · have R := Lib.hid (And.intro hJx3 hk3)
        clear hJx3 hk3 hR hy
        gi_wp2_with fail
        refine ⟨R.out.2.mono HSUB.out, rfl, V.heap.size :: (O ++ GapB W.heap.size), fun b hb => List.mem_cons_of_mem _ hb, ?_⟩
        rw [HEQ.out, HST.out]
        exact R.out.1
    · have hst : (gapStep (gapsAt lo pre) (x1, x2)).1 = g := by
        show (if (gapsAt lo pre).2 < x1 then (gapsAt lo pre).1 ++ [((gapsAt lo pre).2, x1 - 1)] else (gapsAt lo pre).1) = _
        rw [hat, hg, if_neg hlt]
      have hd : decide (at_ < x1) = false := by simp; omega
      have R := Lib.hid (FIN.out V2 _ HJ2.out hst.symm (Keeps.refl _ _))
      clear hst hsub hnot hat hg hz
      gi_wp2_with fail
      refine ⟨fun _ h => (by cases h), ?_⟩
      gi_wp2_with fail
      exact R.out
  case done =>
    rintro O xs V hO hS ⟨hj, c0, c1, f1⟩ _ hDf
    have hz := HZ.out
    obtain ⟨m1, m2, m3, m4⟩ := HMD.out xs hS
    have x1 := HK.out _ _ _ hj
    have HM := Lib.hid m1
    have HM4 := Lib.hid m4
    have HJV := Lib.hid hj
    have HDf := Lib.hid hDf
    have hm0 : W0.heap.size ∈ O ++ GapB W.heap.size := HB.out O _ (List.mem_cons_self ..)
    clear m1 m4 hj hDf hS
    obtain ⟨at_, hat⟩ : ∃ a, (gapsAt lo xs).2 = a := ⟨_, rfl⟩
    obtain ⟨g, hg⟩ : ∃ g, (gapsAt lo xs).1 = g := ⟨_, rfl⟩
    rw [hat] at c1 m2 m3 HM
    rw [hg] at HJV HM
    clear hat hg HM4
    have end_ : ∀ (V3 : World) (p : List S2), J (O ++ GapB W.heap.size) p V3 → p = spn (notH (setB (lotsOf ts ss))) lo (hi + 1 - lo).toNat → SeqPostK (AllGaps (lotsOf ts ss) lo hi) (SomeGaps (lotsOf ts ss) lo hi) J Jx (fun _ => True) (.returned (.tuple #[])) (V3.putObj W0.heap.size (.deferred none)) := fun V3 p hj3 hp =>
      ⟨⟨_, rfl⟩, .inl ⟨_, p, hp, HJ.out _ _ _ _ _ hj3 (GrownL.putObj _ _ _ hm0) (Claims.refl _ _ _), trivial⟩⟩
    have END := Lib.hid end_
    clear end_
    by_cases hle : at_ ≤ hi
    · have e0 := HM.out
      rw [if_pos hle] at e0
      have E0 := Lib.hid e0
      have hSp : SomeGaps (lotsOf ts ss) lo hi (g ++ [(at_, hi)]) := ⟨(hi + 1 - lo).toNat, by omega, E0.out.symm⟩
      obtain ⟨fn, tmps, assign, body, hy, hR⟩ := HY.out _ g (at_, hi) V HJV.out hSp
      clear e0 hSp f1 hz
      gi_wp2_with fail
      refine hR.mono ?_
      rintro e W3 ⟨(⟨rfl, hJ3⟩ | ⟨rfl, hJx3⟩), hk3⟩
      · have R := Lib.hid (And.intro (END.out W3 _ hJ3 E0.out.symm) (hk3.obj HDf.out hm0))
        clear hJ3 hk3 hR hy
        gi_wp2_with fail
        refine ⟨by simp, .inl ⟨_, _, rfl, run_takeDeferred R.out.2, ?_⟩⟩
        exact ⟨_, results_none rfl _ _ _, R.out.1⟩
      · have R := Lib.hid (And.intro hJx3 (hk3.obj HDf.out hm0))
        clear hJx3 hk3 hR hy
        gi_wp2_with fail
        refine ⟨by simp, .inl ⟨_, _, rfl, run_takeDeferred R.out.2, ?_⟩⟩
        refine ⟨_, results_none rfl _ _ _, ⟨_, rfl⟩, .inr ⟨_, _, ⟨(hi + 1 - lo).toNat, by omega, E0.out.symm⟩, HJx.out _ _ _ _ R.out.1 (GrownL.putObj _ _ _ hm0)⟩⟩
    · have e0 := HM.out
      rw [if_neg hle] at e0
      have R := Lib.hid (END.out V _ HJV.out e0.symm)
      clear e0 f1 hz
      gi_wp2_with fail
      refine ⟨by simp, .inl ⟨_, _, rfl, run_takeDeferred HDf.out, ?_⟩⟩
      exact ⟨_, results_none rfl _ _ _, R.out⟩
  case stop =>
    rintro c O pre V hO ⟨k, hk, hek⟩ ⟨rfl, Oy, hy, hj⟩ hDf
    have hz := HZ.out
    have hi' := HMI.out k
    rw [← hek] at hi'
    have hm0 : W0.heap.size ∈ Oy := hy _ (HB.out O _ (List.mem_cons_self ..))
    have R := Lib.hid (And.intro (HJx.out _ _ _ _ hj (GrownL.putObj _ W0.heap.size (.deferred none) hm0)) hDf)
    have E := Lib.hid hi'
    clear hj hDf hi' hek hz
    gi_wp2_with fail
    refine ⟨by simp, .inl ⟨_, _, rfl, run_takeDeferred R.out.2, ?_⟩⟩
    refine ⟨_, results_none rfl _ _ _, ⟨_, rfl⟩, .inr ⟨_, _, ⟨((gapsAt lo pre).2 - lo).toNat, by have := E.out.lo_le; have := E.out.le; omega, E.out.eq.symm⟩, R.out.1⟩⟩
end Go.Proofs.YtlhgpeelenelbaaGreatDoor

/- Contract of listed, for the iterators of R2; contract of Rest. -/
namespace Go.Proofs.YtlhgpeelenelbaaGreatDoor
open Go.RowKit
attribute [local go_sem] Oper.semAt_some

theorem from_nil {n : Nat} {O : List Nat} (h : From [] n O) : ∀ o ∈ O, n ≤ o := fun o ho => (h o ho).resolve_left (by simp)

set_option maxHeartbeats 4000000 in
set_option maxRecDepth 1000000 in
theorem listedK_any (gf : Nat) (lb : Array Value) (eg : ∀ args w, (callFunc gf args).run Tryz.prog w = .ok (.enter gf args) w) (S Sp : List S2 → Prop) (w : World) (K : World → Prop)
    (hseq : SeqK Tryz.prog gf lb (fun x : S2 => #[sv2 x.1 x.2]) S Sp w [] K (fun _ => True)) (hK : ∀ W, Below w.heap.size w W → K W) :
    Calls Tryz.prog 42 #[.func (.func gf) #[] lb] w (ListedPost S Sp w) := by
  obtain ⟨i0, hi, hz0, hz1, hz2⟩ := info_parts infoSpan
  have HEG := Lib.hid eg
  have HSEQ := Lib.hid hseq
  have HKK := Lib.hid hK
  clear eg hseq hK
  refine (callsIn_wide (n := 3)).1 ?_
  refine callsIn_of_wp_marks Tryz.func42 rfl trivial ?_ rfl
  simp only [Tryz.ntmps42, List.size_toArray, List.length_cons, List.length_nil, Nat.reduceAdd, Nat.reduceSub, Array.replicate_succ, Array.replicate_zero, List.push_toArray, List.append_toArray, List.nil_append, List.cons_append]
  gi_wp2_with fail
  have hb3 : Below w.heap.size w (((w.alloc (.cells #[.slice none 0 0] 23)).alloc (.cells #[.int .i64 0] 31)).alloc (.cells #[.slice none 0 0] 23)) :=
    (((Below.refl w.heap.size w).alloc (Nat.le_refl _) _).alloc (by simp) _).alloc (by simp; omega) _
  have x0 := ((Boxed.new w 23 (.slice none 0 0)).alloc (.cells #[.int .i64 0] 31)).alloc (.cells #[.slice none 0 0] 23)
  have x1 := (Boxed.new (w.alloc (.cells #[.slice none 0 0] 23)) 31 (.int .i64 0)).alloc (.cells #[.slice none 0 0] 23)
  have x2 := Boxed.new ((w.alloc (.cells #[.slice none 0 0] 23)).alloc (.cells #[.int .i64 0] 31)) 23 (.slice none 0 0)
  simp only [World.size_alloc] at x0 x1 x2
  obtain ⟨W0, hW0⟩ : ∃ W0, (((w.alloc (.cells #[.slice none 0 0] 23)).alloc (.cells #[.int .i64 0] 31)).alloc (.cells #[.slice none 0 0] 23)) = W0 := ⟨_, rfl⟩
  have hz : W0.heap.size = w.heap.size + 3 := by rw [← hW0]; simp
  rw [hW0] at hb3 x0 x1 x2 ⊢
  have HZ := Lib.hid hz
  have HX := Lib.hid (And.intro x0 (And.intro x1 x2))
  have HB3 := Lib.hid hb3
  clear hW0 x0 x1 x2 hb3 hz
  refine wpIn_rangeK (gf := gf) (lb := lb) rfl HEG.out HSEQ.out HB3.out (fun o h => by cases h) (fun _ => rfl) (ListI w) (ListX w) (fun _ _ W h => HKK.out W h.2.2.2.2.1) ?h0 ?hI ?hIx ?round ?done ?stop
  case h0 =>
    intro W' hb hsz
    have hz := HZ.out
    obtain ⟨x0, x1, x2⟩ := HX.out
    refine ⟨by simp, (fun o ho => by cases ho), (hb.block _ (by omega)).trans x0, (hb.block _ (by omega)).trans x1, HB3.out.trans (hb.mono (by omega)), _, (hb.block _ (by omega)).trans x2, World.ownsRow_nil _ _ _ _, fun g e => by cases e⟩
  case hI =>
    rintro O O' s W1 W2 hO ⟨hl, hlt, b0, b1, hB, v, b2, hrow, hv⟩ hg hcl
    replace hO := from_nil hO
    have hz := HZ.out
    have hBs := hB.size
    refine ⟨hl, ?_, boxed_grownL b0 hg (not_book hO (by omega)), boxed_grownL b1 hg (not_book hO (by omega)), hB.trans (hg.below (book_ge hO (by omega)) (by omega)), v, boxed_grownL b2 hg (not_book hO (by omega)), ownsRow_grownL hrow hg ?_, ?_⟩
    · intro o ho
      have hs := hg.size
      rcases hcl o ho with h | h
      · have := hlt o h; omega
      · omega
    · intro g e hm
      have hgb := hrow.lt g e
      rcases List.mem_cons.1 hm with e' | hm
      · omega
      rcases List.mem_cons.1 hm with e' | hm
      · omega
      · exact hv g e hm
    · intro g e hm
      have hgb := hrow.lt g e
      rcases hcl g hm with h | h
      · exact hv g e h
      · omega
  case hIx =>
    rintro c O s W1 W2 hO ⟨hc, hl, b0, b1, hB⟩ hg
    replace hO := from_nil hO
    have hz := HZ.out
    have hBs := hB.size
    exact ⟨hc, hl, boxed_grownL b0 hg (not_book hO (by omega)), boxed_grownL b1 hg (not_book hO (by omega)), hB.trans (hg.below (book_ge hO (by omega)) (by omega))⟩
  case round =>
    rintro O pre x W hO ⟨hl, hlt, b0, b1, hB, v, b2, hrow, hv⟩ hsz hsp
    replace hO := from_nil hO
    have hz := HZ.out
    obtain ⟨Av, cv, rfl⟩ : ∃ Av cv, v = .slice Av pre.length cv := by
      rcases hrow.2 with ⟨rfl, h0⟩ | ⟨g, cap, cur, rfl, _⟩
      · exact ⟨none, 0, by rw [h0]⟩
      · exact ⟨_, _, rfl⟩
    obtain ⟨p, q⟩ := x
    have HSP := Lib.hid hsp
    have HO := Lib.hid (And.intro hO hlt)
    have HB := Lib.hid hB
    have HV := Lib.hid hv
    have HR := Lib.hid hrow
    have HBx := Lib.hid (And.intro b0 (And.intro b1 b2))
    clear hsp hO hlt hB hv hrow b0 b1 b2
    gi_wp2_with fail
    refine ⟨Keeps.of_below ((Below.refl _ _).alloc (Nat.le_refl _) _), fun W2 hg2 _ => ?_⟩
    obtain ⟨b0, b1, b2⟩ := HBx.out
    have d0 := boxed_grownL (b0.alloc (.cells #[.int .i64 p, .int .i64 q] 27)) hg2 (by simp; omega)
    have d1 := boxed_grownL (b1.alloc (.cells #[.int .i64 p, .int .i64 q] 27)) hg2 (by simp; omega)
    have d2 := boxed_grownL (b2.alloc (.cells #[.int .i64 p, .int .i64 q] 27)) hg2 (by simp; omega)
    have r2 := ownsRow_grownL (HR.out.alloc (.cells #[.int .i64 p, .int .i64 q] 27)) hg2 (fun g e hm => by have := (HR.out.lt g e).1; simp at hm; omega)
    have e0 : W2.cell? ⟨W.heap.size, 0, none⟩ = some (.int .i64 p) := hg2.cell (p := ⟨W.heap.size, 0, none⟩) (by simp [go_sem]) (by simp; omega)
    have e1 : W2.cell? ⟨W.heap.size, 1, none⟩ = some (.int .i64 q) := hg2.cell (p := ⟨W.heap.size, 1, none⟩) (by simp [go_sem]) (by simp; omega)
    have hs2 : W.heap.size + 1 ≤ W2.heap.size := by have := hg2.size; simpa using this
    have c2 := d2.cell
    have c0 := d0.cell
    have c1 := d1.cell
    have f0 := d0.frozen
    have f1 := d1.frozen
    have f2 := d2.frozen
    have HB2 := Lib.hid ((HB.out.alloc (by omega) (.cells #[.int .i64 p, .int .i64 q] 27)).trans (hg2.below (B := w.heap.size) (by intro b hb; simp at hb; omega) (by simp; omega)))
    have D := Lib.hid (And.intro d0 (And.intro d1 d2))
    have R2 := Lib.hid r2
    clear b0 b1 b2 d0 d1 d2 r2 hg2
    by_cases hfull : pre.length = 2000
    · have hf0 : ((pre.length : Int) == 2000) = true := by simp; omega
      have HF := Lib.hid hfull
      clear hfull
      gi_wp2_with fail
      obtain ⟨d0, d1, d2⟩ := D.out
      have m0 := d0.set (.slice none 0 0)
      have g1 := GrownL.set (bs := [w.heap.size, w.heap.size + 1]) W2 ⟨w.heap.size, 0, none⟩ (.slice none 0 0) (by simp)
      have g2 := GrownL.set (bs := [w.heap.size, w.heap.size + 1]) (W2.setCell ⟨w.heap.size, 0, none⟩ (.slice none 0 0)) ⟨w.heap.size + 1, 0, none⟩ (.int .i64 2) (by simp)
      have m1 := boxed_grownL m0 (GrownL.set (bs := [w.heap.size + 1]) _ ⟨w.heap.size + 1, 0, none⟩ (.int .i64 2) (by simp)) (by simp)
      have n1 := (boxed_grownL d1 (GrownL.set (bs := [w.heap.size]) W2 ⟨w.heap.size, 0, none⟩ (.slice none 0 0) (by simp)) (by simp)).set (.int .i64 2)
      refine ⟨Keeps.of_grown (g1.trans g2) (fun o ho hm => ?_), rfl, ?_, m1, n1, ?_⟩
      · have hsO := HO.out
        simp at ho hm
        rcases ho with ho | ho | ho
        · omega
        · omega
        · have := hsO.1 o ho; omega
      · have := HF.out; simp; omega
      · exact (HB2.out.setCell (p := ⟨w.heap.size, 0, none⟩) (Nat.le_refl _) _).setCell (p := ⟨w.heap.size + 1, 0, none⟩) (Nat.le_succ _) _
    · have hf0 : ((pre.length : Int) == 2000) = false := by simp; omega
      have hlt2 : pre.length < 2000 := by omega
      clear hfull
      gi_wp2_with (gi_at_builtin; refine wpListIn_append_own_at _ rfl _ _ 23 rfl (w.heap.size + 5) 27 i0 (.agg #[.int .i64 0, .int .i64 0]) 2 16 Tryz.underlying23 hi hz0 hz1 hz2 rfl (by decide) _ pre.length _ rfl (R2.out.alloc _) ⟨W2.heap.size, 0, none⟩ 1 1 [.int .i64 p, .int .i64 q] rfl rfl ?c1 ?c2 ?c3 ?c4 ?c5 ?_)
      case c1 =>
        intro j u hj
        match j, hj with
        | 0, hj => simp at hj; subst hj; simp [go_sem, Addr.add]
        | 1, hj => simp at hj; subst hj; simp [go_sem, Addr.add]
        | j + 2, hj => simp at hj
      case c2 => intro u hu; simp at hu; rcases hu with rfl | rfl <;> rfl
      case c3 => unfold maxLen; omega
      case c4 => omega
      case c5 => simp; omega
      intro v' w4 hown' hgrow _ hat
      obtain ⟨d0, d1, d2⟩ := D.out
      obtain ⟨g', cap', rfl⟩ := ownsRow_succ hown'
      have q2 := (d2.alloc (.cells #[.int .i64 p, .int .i64 q] 27)).kept hgrow (d2.not_row (by decide) R2.out)
      have q0 := (d0.alloc (.cells #[.int .i64 p, .int .i64 q] 27)).kept hgrow (d0.not_row (by decide) R2.out)
      have q1 := (d1.alloc (.cells #[.int .i64 p, .int .i64 q] 27)).kept hgrow (d1.not_row (by decide) R2.out)
      have hc4 := q2.cell
      have hf4 := q2.frozen
      have Q := Lib.hid (And.intro q0 (And.intro q1 q2))
      have HOwn := Lib.hid hown'
      have HGrow := Lib.hid hgrow
      have HAt := Lib.hid hat
      clear d0 d1 d2 q0 q1 q2 hown' hgrow hat
      gi_wp2_with fail
      obtain ⟨q0, q1, q2⟩ := Q.out
      have hgr := HGrow.out
      have hgl := HOwn.out.lt g' rfl
      have hgS : GrownL ((w.heap.size + 2) :: (Value.ownBlock (.slice Av pre.length cv)).toList) W2 (w4.setCell ⟨w.heap.size + 2, 0, none⟩ (.slice (some ⟨g', 0, none⟩) (pre.length + 1) cap')) :=
        ⟨hgr.os, hgr.tape, hgr.output, by have := hgr.size; simp [go_sem] at this ⊢; omega, fun k hk hn => (Below.heap_setCell w4 ⟨w.heap.size + 2, 0, none⟩ _ k (fun e => hn (by have e' : k = w.heap.size + 2 := e; simp [e']))).trans
          ((hgr.block k (by simp; omega) (fun e => hn (by simp [← e]))).trans (Below.heap_alloc _ _ k hk))⟩
      have hvl : ∀ g, Value.ownBlock (.slice Av pre.length cv) = some g → w.heap.size + 5 ≤ g ∧ g < W.heap.size ∧ g ∉ O := fun g e => ⟨(HR.out.lt g e).1, (HR.out.lt g e).2, HV.out g e⟩
      have hsO := HO.out
      refine ⟨Keeps.of_grown hgS (fun o ho hm => ?_), ?_, ?_, ?_, ?_, ?_, _, q2.set _, ?_, ?_⟩
      · rcases List.mem_cons.1 hm with e | hm
        · simp at ho
          rcases ho with ho | ho | ho
          · omega
          · omega
          · have := hsO.1 o ho; omega
        · have := hvl o (by simpa using hm)
          simp at ho
          rcases ho with ho | ho | ho
          · omega
          · omega
          · exact this.2.2 ho
      · simp; omega
      · intro o ho
        have := hsO.2 o ho
        have := hgS.size
        show o < (w4.setCell ⟨w.heap.size + 2, 0, none⟩ (.slice (some ⟨g', 0, none⟩) (pre.length + 1) cap')).heap.size
        omega
      · exact boxed_grownL q0 (GrownL.set (bs := [w.heap.size + 2]) _ ⟨w.heap.size + 2, 0, none⟩ _ (by simp)) (by simp)
      · exact boxed_grownL q1 (GrownL.set (bs := [w.heap.size + 2]) _ ⟨w.heap.size + 2, 0, none⟩ _ (by simp)) (by simp)
      · exact HB2.out.trans (hgS.below (B := w.heap.size) (by intro b hb; rcases List.mem_cons.1 hb with e | hb; omega; have := hvl b (by simpa using hb); omega) (by omega))
      · have hk := HOwn.out.kept (grownBy_setCell' w4 (w.heap.size + 2) (.slice (some ⟨g', 0, none⟩) (pre.length + 1) cap')) (.inr (q2.not_row (by decide) HOwn.out).symm)
        rw [cells2_snoc]
        simpa using hk
      · intro g e hm
        have e' : g' = g := by simpa [Value.ownBlock] using e
        subst e'
        have := hsO.2 _ hm
        rcases HAt.out with h | h
        · exact (hvl g' (h ▸ rfl)).2.2 hm
        · have : g' = W2.heap.size + 1 := by simpa [Value.ownBlock] using h
          omega
  case done =>
    rintro O xs W hO hS ⟨hl, hlt, b0, b1, hB, v, b2, hrow, hv⟩ _ hK
    replace hO := from_nil hO
    have hz := HZ.out
    obtain ⟨Av, cv, rfl⟩ : ∃ Av cv, v = .slice Av xs.length cv := by
      rcases hrow.2 with ⟨rfl, h0⟩ | ⟨g, cap, cur, rfl, _⟩
      · exact ⟨none, 0, by rw [h0]⟩
      · exact ⟨_, _, rfl⟩
    have c2 := b2.cell
    have c0 := b0.cell
    have c1 := b1.cell
    have f0 := b0.frozen
    have f1 := b1.frozen
    have f2 := b2.frozen
    have HS := Lib.hid hS
    have HB := Lib.hid hB
    have HR := Lib.hid hrow
    have HBx := Lib.hid (And.intro b0 b1)
    have HK := Lib.hid hK
    clear hS hB hrow b0 b1 b2 hK hv hlt hO
    gi_wp2_with fail
    have G1 : GrownL [w.heap.size, w.heap.size + 1, W0.heap.size] W (W.setCell ⟨w.heap.size, 0, none⟩ (.slice Av xs.length cv)) := GrownL.set _ _ _ (by simp)
    have G2 : GrownL [w.heap.size, w.heap.size + 1, W0.heap.size] W ((W.setCell ⟨w.heap.size, 0, none⟩ (.slice Av xs.length cv)).setCell ⟨w.heap.size + 1, 0, none⟩ (.int .i64 0)) := G1.trans (GrownL.set _ _ _ (by simp))
    obtain ⟨b0, b1⟩ := HBx.out
    have m0 := boxed_grownL (b0.set (.slice Av xs.length cv)) (GrownL.set (bs := [w.heap.size + 1]) _ ⟨w.heap.size + 1, 0, none⟩ (.int .i64 0) (by simp)) (by simp)
    have m1 := (boxed_grownL b1 (GrownL.set (bs := [w.heap.size]) W ⟨w.heap.size, 0, none⟩ (.slice Av xs.length cv) (by simp)) (by simp)).set (.int .i64 0)
    have hK5 : ((W.setCell ⟨w.heap.size, 0, none⟩ (.slice Av xs.length cv)).setCell ⟨w.heap.size + 1, 0, none⟩ (.int .i64 0)).heap[W0.heap.size]? = some (.deferred (some [])) :=
      ((Below.heap_setCell _ ⟨w.heap.size + 1, 0, none⟩ _ _ (by show W0.heap.size ≠ w.heap.size + 1; omega)).trans (Below.heap_setCell _ ⟨w.heap.size, 0, none⟩ _ _ (by show W0.heap.size ≠ w.heap.size; omega))).trans HK.out
    have p0 := (boxed_grownL m0 (GrownL.putObj (bs := [W0.heap.size]) _ W0.heap.size (.deferred none) (by simp)) (by simp; omega)).cell
    have p1 := (boxed_grownL m1 (GrownL.putObj (bs := [W0.heap.size]) _ W0.heap.size (.deferred none) (by simp)) (by simp; omega)).cell
    have G3 := G2.trans (GrownL.putObj (bs := [w.heap.size, w.heap.size + 1, W0.heap.size]) _ W0.heap.size (.deferred none) (by simp))
    refine ⟨by simp, .inl ⟨_, _, rfl, run_takeDeferred hK5, ?_⟩⟩
    refine ⟨.tuple #[.slice Av xs.length cv, .int .i64 0], by simp [results, Tryz.results42, go_sem, p0, p1], .inl ⟨xs, _, HS.out, hl, rfl, ?_, ?_⟩⟩
    · exact ownsRow_grownL HR.out G3 (fun g e hm => by have := (HR.out.lt g e).1; simp at hm; omega)
    · exact HB.out.trans (G3.below (by intro b hb; simp at hb; omega) (by have := HB.out.size; omega))
  case stop =>
    rintro c O pre W hO hS ⟨rfl, hl, b0, b1, hB⟩ hK
    replace hO := from_nil hO
    have hz := HZ.out
    have HS := Lib.hid hS
    have HB := Lib.hid hB
    have HK := Lib.hid hK
    have p0 := (boxed_grownL b0 (GrownL.putObj (bs := [W0.heap.size]) _ W0.heap.size (.deferred none) (by simp)) (by simp; omega)).cell
    have p1 := (boxed_grownL b1 (GrownL.putObj (bs := [W0.heap.size]) _ W0.heap.size (.deferred none) (by simp)) (by simp; omega)).cell
    have G3 := GrownL.putObj (bs := [W0.heap.size]) W W0.heap.size (.deferred none) (by simp)
    clear hS hB hK b0 b1
    gi_wp2_with fail
    refine ⟨by simp, .inl ⟨_, _, rfl, run_takeDeferred HK.out, ?_⟩⟩
    refine ⟨.tuple #[.slice none 0 0, .int .i64 2], by simp [results, Tryz.results42, go_sem, p0, p1], .inr ⟨pre, HS.out, hl, rfl, ?_⟩⟩
    exact HB.out.trans (G3.below (by intro b hb; simp at hb; omega) (by have := HB.out.size; omega))
set_option maxHeartbeats 2000000 in
set_option maxRecDepth 1000000 in
theorem rest_any (v : Value) (ts : List T3) (ss : List S2) (lo hi c d : Int) (w : World) (h : RM w.heap.size v ts ss w) (hc : CheckIs ts ss c) (hd : InIs c lo hi d) :
    Calls Tryz.prog 13 #[v, sv2 lo hi] w (ListPost d (spn (notH (setB (lotsOf ts ss))) lo (hi + 1 - lo).toNat) w) := by
  have H := Lib.hid h
  obtain ⟨A, m, ca, A', m', ca', rfl, h1, h2⟩ := h
  have HB2 := Lib.hid (below_two w (.cells #[.slice A m ca, .slice A' m' ca'] 25) (.cells #[.int .i64 lo, .int .i64 hi] 27))
  have C : Hid (∀ W, Below w.heap.size w W → w.heap.size ≤ W.heap.size → Calls Tryz.prog 38 #[.agg #[.slice A m ca, .slice A' m' ca'], sv2 lo hi] W fun e w' => e = .returned (.int .i64 d) ∧ Below W.heap.size W w') :=
    Lib.hid fun W hb hs => checkIn_any _ ts ss lo hi c d W (H.out.up hs hb) hc hd
  clear h1 h2
  by_cases h0 : d = 0
  · subst h0
    obtain ⟨rfl, s1, s2, s3⟩ := inIs_ok hd
    obtain ⟨k1, k2, k3⟩ := checkIs_ok hc
    have HK := Lib.hid k3
    clear hd hc k3
    go_enter Tryz.func13, Tryz.ntmps13
    go_wp2_with fail
    refine (C.out _ HB2.out (by simp; omega)).mono ?_
    rintro e w1 ⟨rfl, hb1⟩
    have hz := hb1.size
    have y0 : w1.cell? ⟨w.heap.size, 0, none⟩ = some (.slice A m ca) := (hb1.cell (p := ⟨w.heap.size, 0, none⟩) (by simp; omega)).trans (by simp [go_sem])
    have y1 : w1.cell? ⟨w.heap.size, 1, none⟩ = some (.slice A' m' ca') := (hb1.cell (p := ⟨w.heap.size, 1, none⟩) (by simp; omega)).trans (by simp [go_sem])
    have z0 : w1.cell? ⟨w.heap.size + 1, 0, none⟩ = some (.int .i64 lo) := (hb1.cell (p := ⟨w.heap.size + 1, 0, none⟩) (by simp)).trans (by simp [go_sem])
    have z1 : w1.cell? ⟨w.heap.size + 1, 1, none⟩ = some (.int .i64 hi) := (hb1.cell (p := ⟨w.heap.size + 1, 1, none⟩) (by simp)).trans (by simp [go_sem])
    have B1 := Lib.hid (HB2.out.trans (hb1.mono (by simp; omega)))
    have hl0 : w.heap.size ≤ w1.heap.size := by simp at hz; omega
    clear hb1
    go_wp2_with fail
    refine (gaps_any A m ca A' m' ca' lo hi _).mono ?_
    rintro e w2 ⟨rfl, rfl⟩
    have b2 := below_two w1 (.cells #[.slice A m ca, .slice A' m' ca'] 25) (.cells #[.int .i64 lo, .int .i64 hi] 27)
    have hrm := H.out.up (B' := ((w1.alloc (.cells #[.slice A m ca, .slice A' m' ca'] 25)).alloc (.cells #[.int .i64 lo, .int .i64 hi] 27)).heap.size) (by simp; omega) (B1.out.trans (b2.mono hl0))
    have L := Lib.hid (listedK_any 85 _ enters_gaps1 _ _ _ _ (gaps_seq w1.heap.size (w1.heap.size + 1) A m ca A' m' ca' ts ss lo hi _ HK.out k1 k2 hrm (by simp [go_sem]) (by simp [go_sem]) (by simp [go_sem]) (by simp [go_sem]) s1 (by omega) s3) (fun W hb => (hb.cell (p := ⟨w1.heap.size + 1, 1, none⟩) (by simp)).trans (by simp [go_sem])))
    have B2 := Lib.hid (B1.out.trans (b2.mono hl0))
    clear b2 hrm y0 y1 z0 z1
    go_wp2_with fail
    refine L.out.mono ?_
    rintro e w3 h3
    obtain ⟨v3, l, c3, rfl, r1, r2, r3⟩ := listed_post (full := spn (notH (setB (lotsOf ts ss))) lo (hi + 1 - lo).toNat) h3 (fun l h => h) (fun p hp => by obtain ⟨k, hk, rfl⟩ := hp; exact spn_len_mono _ _ (by omega))
    have R := Lib.hid (And.intro r1 r3)
    have B3 := Lib.hid (B2.out.trans (r2.mono (by simp; omega)))
    clear h3 r1 r2 r3
    go_wp2_with fail
    go_ret2
    exact ⟨_, l, _, rfl, R.out.1, B3.out, R.out.2⟩
  · have hb0 : (d != 0) = true := by rw [bne_iff_ne]; exact h0
    have H0 := Lib.hid h0
    clear hd hc h0
    go_enter Tryz.func13, Tryz.ntmps13
    go_wp2_with fail
    refine (C.out _ HB2.out (by simp; omega)).mono ?_
    rintro e w1 ⟨rfl, hb1⟩
    have B1 := Lib.hid (HB2.out.trans (hb1.mono (by simp; omega)))
    clear hb1
    go_wp2_with fail
    go_ret2
    exact ⟨_, [], d, rfl, rs_nil _ _, B1.out, .inl ⟨H0.out, rfl, rfl⟩⟩
end Go.Proofs.YtlhgpeelenelbaaGreatDoor
