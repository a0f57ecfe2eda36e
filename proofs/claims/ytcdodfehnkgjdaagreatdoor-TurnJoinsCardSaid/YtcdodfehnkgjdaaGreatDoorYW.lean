/- Union's region that draws its order: a law for each state. -/
import Derived.Test.YtcdodfehnkgjdaaGreatDoorYV
import Derived.Test.YtcdodfehnkgjdaaGreatDoorHB
namespace Go.Proofs.YtcdodfehnkgjdaaGreatDoor
open Go.RowKit

def uOps : Array Oper := #[{ dst := some 16, op := Op.fieldAddr 25 (Operand.tmp 2) 0, type := 0, pos := "sets.go:15", after := #[], guard := none },
  { dst := some 17, op := Op.load 22 (Operand.tmp 16), type := 22, pos := "sets.go:15", after := #[{ on := 0, ground := Ground.data }], guard := none },
  { dst := some 18, op := Op.fieldAddr 25 (Operand.tmp 3) 0, type := 0, pos := "sets.go:15", after := #[], guard := none },
  { dst := some 19, op := Op.load 22 (Operand.tmp 18), type := 22, pos := "sets.go:15", after := #[{ on := 2, ground := Ground.data }], guard := none },
  { dst := some 20, op := Op.buildSlice 113 2 #[(0, Operand.tmp 17), (1, Operand.tmp 19)], type := 113, pos := "sets.go:15", after := #[{ on := 1, ground := Ground.data }, { on := 3, ground := Ground.data }], guard := none },
  { dst := some 21, op := Op.call { callee := Callee.value (Operand.func 29), args := #[Operand.tmp 20], argTypes := #[113] }, type := 22, pos := "sets.go:15", after := #[{ on := 4, ground := Ground.data }], guard := none },
  { dst := some 22, op := Op.call { callee := Callee.value (Operand.func 28), args := #[Operand.tmp 21], argTypes := #[22] }, type := 22, pos := "sets.go:15", after := #[{ on := 5, ground := Ground.data }, { on := 5, ground := Ground.chain }], guard := none },
  { dst := some 23, op := Op.fieldAddr 25 (Operand.tmp 2) 1, type := 0, pos := "sets.go:15", after := #[], guard := none },
  { dst := some 24, op := Op.load 23 (Operand.tmp 23), type := 23, pos := "sets.go:15", after := #[{ on := 7, ground := Ground.data }], guard := none },
  { dst := some 25, op := Op.fieldAddr 25 (Operand.tmp 3) 1, type := 0, pos := "sets.go:15", after := #[], guard := none },
  { dst := some 26, op := Op.load 23 (Operand.tmp 25), type := 23, pos := "sets.go:15", after := #[{ on := 9, ground := Ground.data }], guard := none },
  { dst := some 27, op := Op.buildSlice 117 2 #[(0, Operand.tmp 24), (1, Operand.tmp 26)], type := 117, pos := "sets.go:15", after := #[{ on := 8, ground := Ground.data }, { on := 10, ground := Ground.data }], guard := none },
  { dst := some 28, op := Op.call { callee := Callee.value (Operand.func 31), args := #[Operand.tmp 27], argTypes := #[117] }, type := 23, pos := "sets.go:15", after := #[{ on := 11, ground := Ground.data }, { on := 6, ground := Ground.chain }], guard := none },
  { dst := some 29, op := Op.call { callee := Callee.value (Operand.func 30), args := #[Operand.tmp 28], argTypes := #[23] }, type := 23, pos := "sets.go:15", after := #[{ on := 12, ground := Ground.data }, { on := 12, ground := Ground.chain }], guard := none },
  { dst := some 30, op := Op.build 25 #[(0, Operand.tmp 22), (1, Operand.tmp 29)], type := 25, pos := "sets.go:15", after := #[{ on := 6, ground := Ground.data }, { on := 13, ground := Ground.data }], guard := none },
  { dst := some 7, op := Op.alloc 25, type := 0, pos := "sets.go:15", after := #[], guard := none },
  { dst := none, op := Op.store 25 (Operand.tmp 7) (Operand.tmp 30), type := 0, pos := "sets.go:15", after := #[{ on := 15, ground := Ground.data }, { on := 14, ground := Ground.data }, { on := 13, ground := Ground.chain }, { on := 0, ground := Ground.phase }, { on := 1, ground := Ground.phase }, { on := 2, ground := Ground.phase }, { on := 3, ground := Ground.phase }, { on := 4, ground := Ground.phase }, { on := 5, ground := Ground.phase }, { on := 6, ground := Ground.phase }, { on := 7, ground := Ground.phase }, { on := 8, ground := Ground.phase }, { on := 9, ground := Ground.phase }, { on := 10, ground := Ground.phase }, { on := 11, ground := Ground.phase }, { on := 12, ground := Ground.phase }, { on := 13, ground := Ground.phase }, { on := 14, ground := Ground.phase }, { on := 15, ground := Ground.phase }], guard := none }]
/-- The slots of Union, behind what is read. -/
abbrev uAct (w : World) (A A' B B' : Option Addr) (n ca m' ca' k cb k' cb' : Nat) (x7 x20 x21 x22 x27 x28 x29 x30 : Value) : Act :=
  { tmps := #[.agg #[.slice A n ca, .slice A' m' ca'], .agg #[.slice B k cb, .slice B' k' cb'], .pointer (some ⟨w.heap.size, 0, none⟩), .pointer (some ⟨w.heap.size + 1, 0, none⟩), .pointer (some ⟨w.heap.size + 1 + 1, 0, none⟩), .int .i64 0, .int .i64 0, x7, undef,
      .agg #[.slice A n ca, .slice A' m' ca'], .agg #[.slice B k cb, .slice B' k' cb'], .int .i64 0, .int .i64 0, .bool false, undef, undef,
      .pointer (some ⟨w.heap.size, 0, none⟩), .slice A n ca, .pointer (some ⟨w.heap.size + 1, 0, none⟩), .slice B k cb, x20, x21, x22,
      .pointer (some ⟨w.heap.size, 1, none⟩), .slice A' m' ca', .pointer (some ⟨w.heap.size + 1, 1, none⟩), .slice B' k' cb', x27, x28, x29, x30, undef, undef, undef, undef, undef, undef, undef], defers := [] }
/-- What is known of both sets. -/
structure UCtx (w : World) (A A' B B' : Option Addr) (n ca m' ca' k cb k' cb' : Nat) (ta tb : List T3) (sa sb : List S2) : Prop where
  rt : ∀ W, UcX w (.slice A n ca) (.slice A' m' ca') (.slice B k cb) (.slice B' k' cb') W → RT W.heap.size (.slice A n ca) ta W ∧ RT W.heap.size (.slice B k cb) tb W ∧ RS W.heap.size (.slice A' m' ca') sa W ∧ RS W.heap.size (.slice B' k' cb') sb W
  la : n ≤ 24 ∧ k ≤ 24 ∧ m' ≤ 40 ∧ k' ≤ 40
  ln : ta.length ≤ 24 ∧ tb.length ≤ 24 ∧ sa.length ≤ 40 ∧ sb.length ≤ 40
  wf : ∀ x ∈ ta ++ tb, wfT x
  sp : SpOk (sa ++ sb)
def Row2 (g : Nat) (x y : Value) (W : World) : Prop := g < W.heap.size ∧ W.cell? ⟨g, 0, none⟩ = some x ∧ W.cell? ⟨g, 1, none⟩ = some y
theorem Row2.grown {g : Nat} {x y : Value} {W W' : World} {bs : List Nat} (h : Row2 g x y W) (hg : GrownL bs W W') (hn : g ∉ bs) : Row2 g x y W' := ⟨Nat.lt_of_lt_of_le h.1 hg.size, hg.cell h.2.1 hn, hg.cell h.2.2 hn⟩
theorem Row2.below {g : Nat} {x y : Value} {W W' : World} (h : Row2 g x y W) (hb : Below W.heap.size W W') : Row2 g x y W' := h.grown (GrownL.of_below (bs := []) hb) (by simp)
theorem Row2.new (W : World) (x y : Value) (t : TypeId) : Row2 W.heap.size x y (W.alloc (.cells #[x, y] t)) := ⟨by simp, by simp [go_sem], by simp [go_sem]⟩
/-- The block of the union that is made. -/
def Made (g : Nat) (W : World) : Prop := W.heap[g]? = some (.cells #[.slice none 0 0, .slice none 0 0] 25 (0, 0))
theorem Made.grown {g : Nat} {W W' : World} {bs : List Nat} (h : Made g W) (hg : GrownL bs W W') (hn : g ∉ bs) : Made g W' := (hg.block _ (Array.getElem?_eq_some_iff.1 h).1 hn).trans h
theorem Made.below {g : Nat} {W W' : World} (h : Made g W) (hb : Below W.heap.size W W') : Made g W' := h.grown (GrownL.of_below (bs := []) hb) (by simp)
theorem Made.lt {g : Nat} {W : World} (h : Made g W) : g < W.heap.size := (Array.getElem?_eq_some_iff.1 h).1
theorem Made.new (W : World) : Made W.heap.size (W.alloc (.cells #[.slice none 0 0, .slice none 0 0] 25)) := World.alloc_heap_new W _
theorem OwnT.below {base : Nat} {v : Value} {l : List T3} {W W' : World} (h : OwnT base v l W) (hb : Below W.heap.size W W') : OwnT base v l W' := h.grown (GrownL.of_below (bs := []) hb) (by simp)
theorem OwnS.below {base : Nat} {v : Value} {l : List S2} {W W' : World} (h : OwnS base v l W) (hb : Below W.heap.size W W') : OwnS base v l W' := h.grown (GrownL.of_below (bs := []) hb) (by simp)
/-- What is owed to what follows. -/
def UFin (w : World) (A A' B B' : Option Addr) (n ca m' ca' k cb k' cb' : Nat) (ta tb : List T3) (sa sb : List S2) (Q : Exit → Act → World → Prop) : Prop :=
  ∀ (x20 x21 x27 x28 : Value) (g7 : Nat) (AO : Option Addr) (cO : Nat) (AJ : Option Addr) (nJ cJ : Nat) (su : List S2) (W : World), UcX w (.slice A n ca) (.slice A' m' ca') (.slice B k cb) (.slice B' k' cb') W → OwnT (w.heap.size + 3) (.slice AO (onceL (ta ++ tb)).length cO) (onceL (ta ++ tb)) W → RS W.heap.size (.slice AJ nJ cJ) su W → JoinedOf (sa ++ sb) su → su.length ≤ 80 → Made g7 W → w.heap.size + 3 ≤ g7 →
    (∀ g, (Value.slice AJ nJ cJ).ownBlock = some g → w.heap.size + 3 ≤ g ∧ g ≠ g7) → (∀ g, (Value.slice AO (onceL (ta ++ tb)).length cO).ownBlock = some g → g ≠ g7) →
    Q .normal (uAct w A A' B B' n ca m' ca' k cb k' cb' (.pointer (some ⟨g7, 0, none⟩)) x20 x21 (.slice AO (onceL (ta ++ tb)).length cO) x27 x28 (.slice AJ nJ cJ) (.agg #[.slice AO (onceL (ta ++ tb)).length cO, .slice AJ nJ cJ])) ((W.setCell ⟨g7, 0, none⟩ (.slice AO (onceL (ta ++ tb)).length cO)).setCell ⟨g7, 1, none⟩ (.slice AJ nJ cJ))

theorem Made.eq {g : Nat} {W : World} (h : Made g W) : W.heap[g]? = some (.cells #[.slice none 0 0, .slice none 0 0] 25 (0, 0)) := h
end Go.Proofs.YtcdodfehnkgjdaaGreatDoor

/- Union's region: its states, 0. -/
namespace Go.Proofs.YtcdodfehnkgjdaaGreatDoor
open Go.RowKit
set_option maxHeartbeats 8000000 in
set_option maxRecDepth 1000000 in
theorem uSt611 {w : World} {A A' B B' : Option Addr} {n ca m' ca' k cb k' cb' : Nat} {ta tb : List T3} {sa sb : List S2} (_X : UCtx w A A' B B' n ca m' ca' k cb k' cb' ta tb sa sb) {Q : Exit → Act → World → Prop} (hQ : UFin w A A' B B' n ca m' ca' k cb k' cb' ta tb sa sb Q) (x20 : Value) (x21 : Value) (AO : Option Addr) (cO : Nat) (x27 : Value) (x28 : Value) (AJ : Option Addr) (nJ cJ : Nat) (su : List S2) (g7 : Nat) (W : World) (S : UcX w (.slice A n ca) (.slice A' m' ca') (.slice B k cb) (.slice B' k' cb') W) (hO : OwnT (w.heap.size + 3) (.slice AO (onceL (ta ++ tb)).length cO) (onceL (ta ++ tb)) W) (hJ : RS W.heap.size (.slice AJ nJ cJ) su W) (hJo : JoinedOf (sa ++ sb) su) (hL : su.length ≤ 80) (hP : ∀ g, (Value.slice AJ nJ cJ).ownBlock = some g → w.heap.size + 3 ≤ g ∧ g < W.heap.size) (hA : Made g7 W) (hB : w.heap.size + 3 ≤ g7) (hE : ∀ g, (Value.slice AO (onceL (ta ++ tb)).length cO).ownBlock = some g → g ≠ g7) (hF : ∀ g, (Value.slice AJ nJ cJ).ownBlock = some g → g ≠ g7) :
    wpAnyH Tryz.prog .any uOps Q (UcX w (.slice A n ca) (.slice A' m' ca') (.slice B k cb) (.slice B' k' cb')) 1 #[true, true, true, true, true, true, true, true, true, true, true, true, true, true, true, true, false] (uAct w A A' B B' n ca m' ca' k cb k' cb' (.pointer (some ⟨g7, 0, none⟩)) x20 x21 (.slice AO (onceL (ta ++ tb)).length cO) x27 x28 (.slice AJ nJ cJ) (.agg #[.slice AO (onceL (ta ++ tb)).length cO, .slice AJ nJ cJ])) W := by
  have hz := S.2.2
  have HQ := Lib.hid hQ
  refine wpAnyH_ready (rs := [16]) (by kernel_rfl) (by simp) ?_
  refine AllReadyH.cons (o := { dst := none, op := Op.store 25 (Operand.tmp 7) (Operand.tmp 30), type := 0, pos := "sets.go:15", after := #[{ on := 15, ground := Ground.data }, { on := 14, ground := Ground.data }, { on := 13, ground := Ground.chain }, { on := 0, ground := Ground.phase }, { on := 1, ground := Ground.phase }, { on := 2, ground := Ground.phase }, { on := 3, ground := Ground.phase }, { on := 4, ground := Ground.phase }, { on := 5, ground := Ground.phase }, { on := 6, ground := Ground.phase }, { on := 7, ground := Ground.phase }, { on := 8, ground := Ground.phase }, { on := 9, ground := Ground.phase }, { on := 10, ground := Ground.phase }, { on := 11, ground := Ground.phase }, { on := 12, ground := Ground.phase }, { on := 13, ground := Ground.phase }, { on := 14, ground := Ground.phase }, { on := 15, ground := Ground.phase }], guard := none }) rfl (fun K hK => ?_) (AllReadyH.nil)
  all_goals dsimp only [uAct]
  · have a0 : W.cell? ⟨g7, 0, none⟩ = some (.slice none 0 0) := by simp [World.cell?, hA.eq]
    have a1 : W.cell? ⟨g7, 1, none⟩ = some (.slice none 0 0) := by simp [World.cell?, hA.eq]
    have b0 : W.frozen? ⟨g7, 0, none⟩ = false := by simp [World.frozen?, hA.eq]
    have b1 : W.frozen? ⟨g7, 1, none⟩ = false := by simp [World.frozen?, hA.eq]
    have hg : GrownL [g7] W ((W.setCell ⟨g7, 0, none⟩ (.slice AO (onceL (ta ++ tb)).length cO)).setCell ⟨g7, 1, none⟩ (.slice AJ nJ cJ)) := (GrownL.set _ _ _ (by simp)).trans (GrownL.set _ _ _ (by simp))
    have hS' := S.grown hg (fun b hb => by simp at hb; omega)
    go_simp
    refine hK.out _ _ hS' (fun S' => ?_)
    try simp only [List.setIfInBounds_toArray, List.set_cons_zero, List.set_cons_succ]
    refine wpAnyH_done (by kernel_rfl) ?_ _
    exact HQ.out x20 x21 x27 x28 g7 AO cO AJ nJ cJ su W S hO hJ hJo hL hA hB (fun g hg => ⟨(hP g hg).1, hF g hg⟩) hE
set_option maxHeartbeats 8000000 in
set_option maxRecDepth 1000000 in
theorem uSt610 {w : World} {A A' B B' : Option Addr} {n ca m' ca' k cb k' cb' : Nat} {ta tb : List T3} {sa sb : List S2} (X : UCtx w A A' B B' n ca m' ca' k cb k' cb' ta tb sa sb) {Q : Exit → Act → World → Prop} (hQ : UFin w A A' B B' n ca m' ca' k cb k' cb' ta tb sa sb Q) (x20 : Value) (x21 : Value) (AO : Option Addr) (cO : Nat) (x27 : Value) (x28 : Value) (AJ : Option Addr) (nJ cJ : Nat) (su : List S2) (W : World) (S : UcX w (.slice A n ca) (.slice A' m' ca') (.slice B k cb) (.slice B' k' cb') W) (hO : OwnT (w.heap.size + 3) (.slice AO (onceL (ta ++ tb)).length cO) (onceL (ta ++ tb)) W) (hJ : RS W.heap.size (.slice AJ nJ cJ) su W) (hJo : JoinedOf (sa ++ sb) su) (hL : su.length ≤ 80) (hP : ∀ g, (Value.slice AJ nJ cJ).ownBlock = some g → w.heap.size + 3 ≤ g ∧ g < W.heap.size) :
    wpAnyH Tryz.prog .any uOps Q (UcX w (.slice A n ca) (.slice A' m' ca') (.slice B k cb) (.slice B' k' cb')) 2 #[true, true, true, true, true, true, true, true, true, true, true, true, true, true, true, false, false] (uAct w A A' B B' n ca m' ca' k cb k' cb' undef x20 x21 (.slice AO (onceL (ta ++ tb)).length cO) x27 x28 (.slice AJ nJ cJ) (.agg #[.slice AO (onceL (ta ++ tb)).length cO, .slice AJ nJ cJ])) W := by
  have hz := S.2.2
  refine wpAnyH_ready (rs := [15]) (by kernel_rfl) (by simp) ?_
  refine AllReadyH.cons (o := { dst := some 7, op := Op.alloc 25, type := 0, pos := "sets.go:15", after := #[], guard := none }) rfl (fun K hK => ?_) (AllReadyH.nil)
  all_goals dsimp only [uAct]
  · go_simp
    have hb : Below W.heap.size W (W.alloc (.cells #[.slice none 0 0, .slice none 0 0] 25)) := (Below.refl _ _).alloc (Nat.le_refl _) _
    refine hK.out _ _ (S.below hb) (fun S' => ?_)
    try simp only [List.setIfInBounds_toArray, List.set_cons_zero, List.set_cons_succ]
    exact uSt611 X hQ x20 x21 AO cO x27 x28 AJ nJ cJ su W.heap.size (_) (S') (hO.below hb) (hJ.up hb.size hb) (hJo) (hL) (fun g hg => by have := hP g hg; have := hb.size; omega) (Made.new W) (hz) (fun g hg => by have := (hO.lt g hg).2; omega) (fun g hg => by have := hP g hg; omega)
set_option maxHeartbeats 8000000 in
set_option maxRecDepth 1000000 in
theorem uSt511 {w : World} {A A' B B' : Option Addr} {n ca m' ca' k cb k' cb' : Nat} {ta tb : List T3} {sa sb : List S2} (X : UCtx w A A' B B' n ca m' ca' k cb k' cb' ta tb sa sb) {Q : Exit → Act → World → Prop} (hQ : UFin w A A' B B' n ca m' ca' k cb k' cb' ta tb sa sb Q) (x20 : Value) (x21 : Value) (AO : Option Addr) (cO : Nat) (x27 : Value) (x28 : Value) (AJ : Option Addr) (nJ cJ : Nat) (su : List S2) (g7 : Nat) (W : World) (S : UcX w (.slice A n ca) (.slice A' m' ca') (.slice B k cb) (.slice B' k' cb') W) (hO : OwnT (w.heap.size + 3) (.slice AO (onceL (ta ++ tb)).length cO) (onceL (ta ++ tb)) W) (hJ : RS W.heap.size (.slice AJ nJ cJ) su W) (hJo : JoinedOf (sa ++ sb) su) (hL : su.length ≤ 80) (hP : ∀ g, (Value.slice AJ nJ cJ).ownBlock = some g → w.heap.size + 3 ≤ g ∧ g < W.heap.size) (hA : Made g7 W) (hB : w.heap.size + 3 ≤ g7) (hE : ∀ g, (Value.slice AO (onceL (ta ++ tb)).length cO).ownBlock = some g → g ≠ g7) (hF : ∀ g, (Value.slice AJ nJ cJ).ownBlock = some g → g ≠ g7) :
    wpAnyH Tryz.prog .any uOps Q (UcX w (.slice A n ca) (.slice A' m' ca') (.slice B k cb) (.slice B' k' cb')) 2 #[true, true, true, true, true, true, true, true, true, true, true, true, true, true, false, true, false] (uAct w A A' B B' n ca m' ca' k cb k' cb' (.pointer (some ⟨g7, 0, none⟩)) x20 x21 (.slice AO (onceL (ta ++ tb)).length cO) x27 x28 (.slice AJ nJ cJ) undef) W := by
  have hz := S.2.2
  refine wpAnyH_ready (rs := [14]) (by kernel_rfl) (by simp) ?_
  refine AllReadyH.cons (o := { dst := some 30, op := Op.build 25 #[(0, Operand.tmp 22), (1, Operand.tmp 29)], type := 25, pos := "sets.go:15", after := #[{ on := 6, ground := Ground.data }, { on := 13, ground := Ground.data }], guard := none }) rfl (fun K hK => ?_) (AllReadyH.nil)
  all_goals dsimp only [uAct]
  · go_simp
    refine hK.out _ _ S (fun S' => ?_)
    try simp only [List.setIfInBounds_toArray, List.set_cons_zero, List.set_cons_succ]
    exact uSt611 X hQ x20 x21 AO cO x27 x28 AJ nJ cJ su g7 (W) (S') (hO) (hJ) (hJo) (hL) (hP) (hA) (hB) (hE) (hF)
set_option maxHeartbeats 8000000 in
set_option maxRecDepth 1000000 in
theorem uSt510 {w : World} {A A' B B' : Option Addr} {n ca m' ca' k cb k' cb' : Nat} {ta tb : List T3} {sa sb : List S2} (X : UCtx w A A' B B' n ca m' ca' k cb k' cb' ta tb sa sb) {Q : Exit → Act → World → Prop} (hQ : UFin w A A' B B' n ca m' ca' k cb k' cb' ta tb sa sb Q) (x20 : Value) (x21 : Value) (AO : Option Addr) (cO : Nat) (x27 : Value) (x28 : Value) (AJ : Option Addr) (nJ cJ : Nat) (su : List S2) (W : World) (S : UcX w (.slice A n ca) (.slice A' m' ca') (.slice B k cb) (.slice B' k' cb') W) (hO : OwnT (w.heap.size + 3) (.slice AO (onceL (ta ++ tb)).length cO) (onceL (ta ++ tb)) W) (hJ : RS W.heap.size (.slice AJ nJ cJ) su W) (hJo : JoinedOf (sa ++ sb) su) (hL : su.length ≤ 80) (hP : ∀ g, (Value.slice AJ nJ cJ).ownBlock = some g → w.heap.size + 3 ≤ g ∧ g < W.heap.size) :
    wpAnyH Tryz.prog .any uOps Q (UcX w (.slice A n ca) (.slice A' m' ca') (.slice B k cb) (.slice B' k' cb')) 3 #[true, true, true, true, true, true, true, true, true, true, true, true, true, true, false, false, false] (uAct w A A' B B' n ca m' ca' k cb k' cb' undef x20 x21 (.slice AO (onceL (ta ++ tb)).length cO) x27 x28 (.slice AJ nJ cJ) undef) W := by
  have hz := S.2.2
  refine wpAnyH_ready (rs := [14, 15]) (by kernel_rfl) (by simp) ?_
  refine AllReadyH.cons (o := { dst := some 30, op := Op.build 25 #[(0, Operand.tmp 22), (1, Operand.tmp 29)], type := 25, pos := "sets.go:15", after := #[{ on := 6, ground := Ground.data }, { on := 13, ground := Ground.data }], guard := none }) rfl (fun K hK => ?_) (AllReadyH.cons (o := { dst := some 7, op := Op.alloc 25, type := 0, pos := "sets.go:15", after := #[], guard := none }) rfl (fun K hK => ?_) (AllReadyH.nil))
  all_goals dsimp only [uAct]
  · go_simp
    refine hK.out _ _ S (fun S' => ?_)
    try simp only [List.setIfInBounds_toArray, List.set_cons_zero, List.set_cons_succ]
    exact uSt610 X hQ x20 x21 AO cO x27 x28 AJ nJ cJ su (W) (S') (hO) (hJ) (hJo) (hL) (hP)
  · go_simp
    have hb : Below W.heap.size W (W.alloc (.cells #[.slice none 0 0, .slice none 0 0] 25)) := (Below.refl _ _).alloc (Nat.le_refl _) _
    refine hK.out _ _ (S.below hb) (fun S' => ?_)
    try simp only [List.setIfInBounds_toArray, List.set_cons_zero, List.set_cons_succ]
    exact uSt511 X hQ x20 x21 AO cO x27 x28 AJ nJ cJ su W.heap.size (_) (S') (hO.below hb) (hJ.up hb.size hb) (hJo) (hL) (fun g hg => by have := hP g hg; have := hb.size; omega) (Made.new W) (hz) (fun g hg => by have := (hO.lt g hg).2; omega) (fun g hg => by have := hP g hg; omega)
set_option maxHeartbeats 8000000 in
set_option maxRecDepth 1000000 in
theorem uSt411 {w : World} {A A' B B' : Option Addr} {n ca m' ca' k cb k' cb' : Nat} {ta tb : List T3} {sa sb : List S2} (X : UCtx w A A' B B' n ca m' ca' k cb k' cb' ta tb sa sb) {Q : Exit → Act → World → Prop} (hQ : UFin w A A' B B' n ca m' ca' k cb k' cb' ta tb sa sb Q) (x20 : Value) (x21 : Value) (AO : Option Addr) (cO : Nat) (x27 : Value) (vS : Value) (g7 : Nat) (W : World) (S : UcX w (.slice A n ca) (.slice A' m' ca') (.slice B k cb) (.slice B' k' cb') W) (hO : OwnT (w.heap.size + 3) (.slice AO (onceL (ta ++ tb)).length cO) (onceL (ta ++ tb)) W) (hV : OwnS (w.heap.size + 3) vS (sa ++ sb) W) (hD : ∀ g, vS.ownBlock = some g → (Value.slice AO (onceL (ta ++ tb)).length cO).ownBlock ≠ some g) (hA : Made g7 W) (hB : w.heap.size + 3 ≤ g7) (hE : ∀ g, (Value.slice AO (onceL (ta ++ tb)).length cO).ownBlock = some g → g ≠ g7) (hF : ∀ g, vS.ownBlock = some g → g ≠ g7) :
    wpAnyH Tryz.prog .any uOps Q (UcX w (.slice A n ca) (.slice A' m' ca') (.slice B k cb) (.slice B' k' cb')) 3 #[true, true, true, true, true, true, true, true, true, true, true, true, true, false, false, true, false] (uAct w A A' B B' n ca m' ca' k cb k' cb' (.pointer (some ⟨g7, 0, none⟩)) x20 x21 (.slice AO (onceL (ta ++ tb)).length cO) x27 vS undef undef) W := by
  have hz := S.2.2
  refine wpAnyH_ready (rs := [13]) (by kernel_rfl) (by simp) ?_
  refine AllReadyH.cons (o := { dst := some 29, op := Op.call { callee := Callee.value (Operand.func 30), args := #[Operand.tmp 28], argTypes := #[23] }, type := 23, pos := "sets.go:15", after := #[{ on := 12, ground := Ground.data }, { on := 12, ground := Ground.chain }], guard := none }) rfl (fun K hK => ?_) (AllReadyH.nil)
  all_goals dsimp only [uAct]
  · have C' := Lib.hid (joined_any (w.heap.size + 3) vS (sa ++ sb) W hV X.sp (by have := X.ln; simp; omega))
    go_simp
    refine C'.out.mono ?_
    rintro e w5 ⟨vJ, su, rfl, hr, hj, hl, hg, hown⟩
    obtain ⟨AJ, cJ, rfl, -, -⟩ := id hr
    have hgb : ∀ b ∈ vS.ownBlock.toList, w.heap.size + 3 ≤ b := fun b hb => (hV.lt b (by simpa using hb)).1
    refine hK.out _ _ (S.grown hg hgb) (fun S' => ?_)
    try simp only [List.setIfInBounds_toArray, List.set_cons_zero, List.set_cons_succ]
    exact uSt511 X hQ x20 x21 AO cO x27 _ AJ su.length cJ su g7 (w5) (S') (hO.grown hg (fun q hq hm => hD q (by simpa using hm) hq)) (hr) (hj) (by have := X.ln; simp at hl; omega) (fun g hq => by have := hV.lt g (hown ▸ hq); have := hg.size; omega) (hA.grown hg (fun hm => hF g7 (by simpa using hm) rfl)) (hB) (hE) (fun g hq => hF g (hown ▸ hq))
set_option maxHeartbeats 8000000 in
set_option maxRecDepth 1000000 in
theorem uSt410 {w : World} {A A' B B' : Option Addr} {n ca m' ca' k cb k' cb' : Nat} {ta tb : List T3} {sa sb : List S2} (X : UCtx w A A' B B' n ca m' ca' k cb k' cb' ta tb sa sb) {Q : Exit → Act → World → Prop} (hQ : UFin w A A' B B' n ca m' ca' k cb k' cb' ta tb sa sb Q) (x20 : Value) (x21 : Value) (AO : Option Addr) (cO : Nat) (x27 : Value) (vS : Value) (W : World) (S : UcX w (.slice A n ca) (.slice A' m' ca') (.slice B k cb) (.slice B' k' cb') W) (hO : OwnT (w.heap.size + 3) (.slice AO (onceL (ta ++ tb)).length cO) (onceL (ta ++ tb)) W) (hV : OwnS (w.heap.size + 3) vS (sa ++ sb) W) (hD : ∀ g, vS.ownBlock = some g → (Value.slice AO (onceL (ta ++ tb)).length cO).ownBlock ≠ some g) :
    wpAnyH Tryz.prog .any uOps Q (UcX w (.slice A n ca) (.slice A' m' ca') (.slice B k cb) (.slice B' k' cb')) 4 #[true, true, true, true, true, true, true, true, true, true, true, true, true, false, false, false, false] (uAct w A A' B B' n ca m' ca' k cb k' cb' undef x20 x21 (.slice AO (onceL (ta ++ tb)).length cO) x27 vS undef undef) W := by
  have hz := S.2.2
  refine wpAnyH_ready (rs := [13, 15]) (by kernel_rfl) (by simp) ?_
  refine AllReadyH.cons (o := { dst := some 29, op := Op.call { callee := Callee.value (Operand.func 30), args := #[Operand.tmp 28], argTypes := #[23] }, type := 23, pos := "sets.go:15", after := #[{ on := 12, ground := Ground.data }, { on := 12, ground := Ground.chain }], guard := none }) rfl (fun K hK => ?_) (AllReadyH.cons (o := { dst := some 7, op := Op.alloc 25, type := 0, pos := "sets.go:15", after := #[], guard := none }) rfl (fun K hK => ?_) (AllReadyH.nil))
  all_goals dsimp only [uAct]
  · have C' := Lib.hid (joined_any (w.heap.size + 3) vS (sa ++ sb) W hV X.sp (by have := X.ln; simp; omega))
    go_simp
    refine C'.out.mono ?_
    rintro e w5 ⟨vJ, su, rfl, hr, hj, hl, hg, hown⟩
    obtain ⟨AJ, cJ, rfl, -, -⟩ := id hr
    have hgb : ∀ b ∈ vS.ownBlock.toList, w.heap.size + 3 ≤ b := fun b hb => (hV.lt b (by simpa using hb)).1
    refine hK.out _ _ (S.grown hg hgb) (fun S' => ?_)
    try simp only [List.setIfInBounds_toArray, List.set_cons_zero, List.set_cons_succ]
    exact uSt510 X hQ x20 x21 AO cO x27 _ AJ su.length cJ su (w5) (S') (hO.grown hg (fun q hq hm => hD q (by simpa using hm) hq)) (hr) (hj) (by have := X.ln; simp at hl; omega) (fun g hq => by have := hV.lt g (hown ▸ hq); have := hg.size; omega)
  · go_simp
    have hb : Below W.heap.size W (W.alloc (.cells #[.slice none 0 0, .slice none 0 0] 25)) := (Below.refl _ _).alloc (Nat.le_refl _) _
    refine hK.out _ _ (S.below hb) (fun S' => ?_)
    try simp only [List.setIfInBounds_toArray, List.set_cons_zero, List.set_cons_succ]
    exact uSt411 X hQ x20 x21 AO cO x27 vS W.heap.size (_) (S') (hO.below hb) (hV.below hb) (hD) (Made.new W) (hz) (fun g hg => by have := (hO.lt g hg).2; omega) (fun g hg => by have := (hV.lt g hg).2; omega)
end Go.Proofs.YtcdodfehnkgjdaaGreatDoor

/- Union's region: its states, 1. -/
namespace Go.Proofs.YtcdodfehnkgjdaaGreatDoor
open Go.RowKit
set_option maxHeartbeats 8000000 in
set_option maxRecDepth 1000000 in
theorem uSt311 {w : World} {A A' B B' : Option Addr} {n ca m' ca' k cb k' cb' : Nat} {ta tb : List T3} {sa sb : List S2} (X : UCtx w A A' B B' n ca m' ca' k cb k' cb' ta tb sa sb) {Q : Exit → Act → World → Prop} (hQ : UFin w A A' B B' n ca m' ca' k cb k' cb' ta tb sa sb Q) (x20 : Value) (x21 : Value) (AO : Option Addr) (cO : Nat) (gS : Nat) (g7 : Nat) (W : World) (S : UcX w (.slice A n ca) (.slice A' m' ca') (.slice B k cb) (.slice B' k' cb') W) (hO : OwnT (w.heap.size + 3) (.slice AO (onceL (ta ++ tb)).length cO) (onceL (ta ++ tb)) W) (hR : Row2 gS (.slice A' m' ca') (.slice B' k' cb') W) (hA : Made g7 W) (hB : w.heap.size + 3 ≤ g7) (hE : ∀ g, (Value.slice AO (onceL (ta ++ tb)).length cO).ownBlock = some g → g ≠ g7) :
    wpAnyH Tryz.prog .any uOps Q (UcX w (.slice A n ca) (.slice A' m' ca') (.slice B k cb) (.slice B' k' cb')) 4 #[true, true, true, true, true, true, true, true, true, true, true, true, false, false, false, true, false] (uAct w A A' B B' n ca m' ca' k cb k' cb' (.pointer (some ⟨g7, 0, none⟩)) x20 x21 (.slice AO (onceL (ta ++ tb)).length cO) (.slice (some ⟨gS, 0, none⟩) 2 2) undef undef undef) W := by
  have hz := S.2.2
  refine wpAnyH_ready (rs := [12]) (by kernel_rfl) (by simp) ?_
  refine AllReadyH.cons (o := { dst := some 28, op := Op.call { callee := Callee.value (Operand.func 31), args := #[Operand.tmp 27], argTypes := #[117] }, type := 23, pos := "sets.go:15", after := #[{ on := 11, ground := Ground.data }, { on := 6, ground := Ground.chain }], guard := none }) rfl (fun K hK => ?_) (AllReadyH.nil)
  all_goals dsimp only [uAct]
  · have C' := Lib.hid (concatS_any gS A' B' m' ca' k' cb' sa sb W hR.1 hR.2.1 hR.2.2 (X.rt W S).2.2.1 (X.rt W S).2.2.2 (by have := X.la; omega) (by have := X.la; omega))
    go_simp
    refine C'.out.mono ?_
    rintro e w5 ⟨vS, rfl, ho, hb⟩
    refine hK.out _ _ (S.below hb) (fun S' => ?_)
    try simp only [List.setIfInBounds_toArray, List.set_cons_zero, List.set_cons_succ]
    exact uSt411 X hQ x20 x21 AO cO _ vS g7 (w5) (S') (hO.below hb) (ho.low hz) (fun g hg he => by have := (ho.lt g hg).1; have := (hO.lt g he).2; omega) (hA.below hb) (hB) (hE) (fun g hg => by have := (ho.lt g hg).1; have := hA.lt; omega)
set_option maxHeartbeats 8000000 in
set_option maxRecDepth 1000000 in
theorem uSt310 {w : World} {A A' B B' : Option Addr} {n ca m' ca' k cb k' cb' : Nat} {ta tb : List T3} {sa sb : List S2} (X : UCtx w A A' B B' n ca m' ca' k cb k' cb' ta tb sa sb) {Q : Exit → Act → World → Prop} (hQ : UFin w A A' B B' n ca m' ca' k cb k' cb' ta tb sa sb Q) (x20 : Value) (x21 : Value) (AO : Option Addr) (cO : Nat) (gS : Nat) (W : World) (S : UcX w (.slice A n ca) (.slice A' m' ca') (.slice B k cb) (.slice B' k' cb') W) (hO : OwnT (w.heap.size + 3) (.slice AO (onceL (ta ++ tb)).length cO) (onceL (ta ++ tb)) W) (hR : Row2 gS (.slice A' m' ca') (.slice B' k' cb') W) :
    wpAnyH Tryz.prog .any uOps Q (UcX w (.slice A n ca) (.slice A' m' ca') (.slice B k cb) (.slice B' k' cb')) 5 #[true, true, true, true, true, true, true, true, true, true, true, true, false, false, false, false, false] (uAct w A A' B B' n ca m' ca' k cb k' cb' undef x20 x21 (.slice AO (onceL (ta ++ tb)).length cO) (.slice (some ⟨gS, 0, none⟩) 2 2) undef undef undef) W := by
  have hz := S.2.2
  refine wpAnyH_ready (rs := [12, 15]) (by kernel_rfl) (by simp) ?_
  refine AllReadyH.cons (o := { dst := some 28, op := Op.call { callee := Callee.value (Operand.func 31), args := #[Operand.tmp 27], argTypes := #[117] }, type := 23, pos := "sets.go:15", after := #[{ on := 11, ground := Ground.data }, { on := 6, ground := Ground.chain }], guard := none }) rfl (fun K hK => ?_) (AllReadyH.cons (o := { dst := some 7, op := Op.alloc 25, type := 0, pos := "sets.go:15", after := #[], guard := none }) rfl (fun K hK => ?_) (AllReadyH.nil))
  all_goals dsimp only [uAct]
  · have C' := Lib.hid (concatS_any gS A' B' m' ca' k' cb' sa sb W hR.1 hR.2.1 hR.2.2 (X.rt W S).2.2.1 (X.rt W S).2.2.2 (by have := X.la; omega) (by have := X.la; omega))
    go_simp
    refine C'.out.mono ?_
    rintro e w5 ⟨vS, rfl, ho, hb⟩
    refine hK.out _ _ (S.below hb) (fun S' => ?_)
    try simp only [List.setIfInBounds_toArray, List.set_cons_zero, List.set_cons_succ]
    exact uSt410 X hQ x20 x21 AO cO _ vS (w5) (S') (hO.below hb) (ho.low hz) (fun g hg he => by have := (ho.lt g hg).1; have := (hO.lt g he).2; omega)
  · go_simp
    have hb : Below W.heap.size W (W.alloc (.cells #[.slice none 0 0, .slice none 0 0] 25)) := (Below.refl _ _).alloc (Nat.le_refl _) _
    refine hK.out _ _ (S.below hb) (fun S' => ?_)
    try simp only [List.setIfInBounds_toArray, List.set_cons_zero, List.set_cons_succ]
    exact uSt311 X hQ x20 x21 AO cO gS W.heap.size (_) (S') (hO.below hb) (hR.below hb) (Made.new W) (hz) (fun g hg => by have := (hO.lt g hg).2; omega)
set_option maxHeartbeats 8000000 in
set_option maxRecDepth 1000000 in
theorem uSt301 {w : World} {A A' B B' : Option Addr} {n ca m' ca' k cb k' cb' : Nat} {ta tb : List T3} {sa sb : List S2} (X : UCtx w A A' B B' n ca m' ca' k cb k' cb' ta tb sa sb) {Q : Exit → Act → World → Prop} (hQ : UFin w A A' B B' n ca m' ca' k cb k' cb' ta tb sa sb Q) (x20 : Value) (x21 : Value) (AO : Option Addr) (cO : Nat) (g7 : Nat) (W : World) (S : UcX w (.slice A n ca) (.slice A' m' ca') (.slice B k cb) (.slice B' k' cb') W) (hO : OwnT (w.heap.size + 3) (.slice AO (onceL (ta ++ tb)).length cO) (onceL (ta ++ tb)) W) (hA : Made g7 W) (hB : w.heap.size + 3 ≤ g7) (hE : ∀ g, (Value.slice AO (onceL (ta ++ tb)).length cO).ownBlock = some g → g ≠ g7) :
    wpAnyH Tryz.prog .any uOps Q (UcX w (.slice A n ca) (.slice A' m' ca') (.slice B k cb) (.slice B' k' cb')) 5 #[true, true, true, true, true, true, true, true, true, true, true, false, false, false, false, true, false] (uAct w A A' B B' n ca m' ca' k cb k' cb' (.pointer (some ⟨g7, 0, none⟩)) x20 x21 (.slice AO (onceL (ta ++ tb)).length cO) undef undef undef undef) W := by
  have hz := S.2.2
  refine wpAnyH_ready (rs := [11]) (by kernel_rfl) (by simp) ?_
  refine AllReadyH.cons (o := { dst := some 27, op := Op.buildSlice 117 2 #[(0, Operand.tmp 24), (1, Operand.tmp 26)], type := 117, pos := "sets.go:15", after := #[{ on := 8, ground := Ground.data }, { on := 10, ground := Ground.data }], guard := none }) rfl (fun K hK => ?_) (AllReadyH.nil)
  all_goals dsimp only [uAct]
  · go_simp
    have hb : Below W.heap.size W (W.alloc (.cells #[.slice A' m' ca', .slice B' k' cb'] 23)) := (Below.refl _ _).alloc (Nat.le_refl _) _
    refine hK.out _ _ (S.below hb) (fun S' => ?_)
    try simp only [List.setIfInBounds_toArray, List.set_cons_zero, List.set_cons_succ]
    exact uSt311 X hQ x20 x21 AO cO W.heap.size g7 (_) (S') (hO.below hb) (Row2.new W _ _ _) (hA.below hb) (hB) (hE)
set_option maxHeartbeats 8000000 in
set_option maxRecDepth 1000000 in
theorem uSt300 {w : World} {A A' B B' : Option Addr} {n ca m' ca' k cb k' cb' : Nat} {ta tb : List T3} {sa sb : List S2} (X : UCtx w A A' B B' n ca m' ca' k cb k' cb' ta tb sa sb) {Q : Exit → Act → World → Prop} (hQ : UFin w A A' B B' n ca m' ca' k cb k' cb' ta tb sa sb Q) (x20 : Value) (x21 : Value) (AO : Option Addr) (cO : Nat) (W : World) (S : UcX w (.slice A n ca) (.slice A' m' ca') (.slice B k cb) (.slice B' k' cb') W) (hO : OwnT (w.heap.size + 3) (.slice AO (onceL (ta ++ tb)).length cO) (onceL (ta ++ tb)) W) :
    wpAnyH Tryz.prog .any uOps Q (UcX w (.slice A n ca) (.slice A' m' ca') (.slice B k cb) (.slice B' k' cb')) 6 #[true, true, true, true, true, true, true, true, true, true, true, false, false, false, false, false, false] (uAct w A A' B B' n ca m' ca' k cb k' cb' undef x20 x21 (.slice AO (onceL (ta ++ tb)).length cO) undef undef undef undef) W := by
  have hz := S.2.2
  refine wpAnyH_ready (rs := [11, 15]) (by kernel_rfl) (by simp) ?_
  refine AllReadyH.cons (o := { dst := some 27, op := Op.buildSlice 117 2 #[(0, Operand.tmp 24), (1, Operand.tmp 26)], type := 117, pos := "sets.go:15", after := #[{ on := 8, ground := Ground.data }, { on := 10, ground := Ground.data }], guard := none }) rfl (fun K hK => ?_) (AllReadyH.cons (o := { dst := some 7, op := Op.alloc 25, type := 0, pos := "sets.go:15", after := #[], guard := none }) rfl (fun K hK => ?_) (AllReadyH.nil))
  all_goals dsimp only [uAct]
  · go_simp
    have hb : Below W.heap.size W (W.alloc (.cells #[.slice A' m' ca', .slice B' k' cb'] 23)) := (Below.refl _ _).alloc (Nat.le_refl _) _
    refine hK.out _ _ (S.below hb) (fun S' => ?_)
    try simp only [List.setIfInBounds_toArray, List.set_cons_zero, List.set_cons_succ]
    exact uSt310 X hQ x20 x21 AO cO W.heap.size (_) (S') (hO.below hb) (Row2.new W _ _ _)
  · go_simp
    have hb : Below W.heap.size W (W.alloc (.cells #[.slice none 0 0, .slice none 0 0] 25)) := (Below.refl _ _).alloc (Nat.le_refl _) _
    refine hK.out _ _ (S.below hb) (fun S' => ?_)
    try simp only [List.setIfInBounds_toArray, List.set_cons_zero, List.set_cons_succ]
    exact uSt301 X hQ x20 x21 AO cO W.heap.size (_) (S') (hO.below hb) (Made.new W) (hz) (fun g hg => by have := (hO.lt g hg).2; omega)
end Go.Proofs.YtcdodfehnkgjdaaGreatDoor

/- Union's region: its states, 2. -/
namespace Go.Proofs.YtcdodfehnkgjdaaGreatDoor
open Go.RowKit
set_option maxHeartbeats 8000000 in
set_option maxRecDepth 1000000 in
theorem uSt211 {w : World} {A A' B B' : Option Addr} {n ca m' ca' k cb k' cb' : Nat} {ta tb : List T3} {sa sb : List S2} (X : UCtx w A A' B B' n ca m' ca' k cb k' cb' ta tb sa sb) {Q : Exit → Act → World → Prop} (hQ : UFin w A A' B B' n ca m' ca' k cb k' cb' ta tb sa sb Q) (x20 : Value) (vT : Value) (gS : Nat) (g7 : Nat) (W : World) (S : UcX w (.slice A n ca) (.slice A' m' ca') (.slice B k cb) (.slice B' k' cb') W) (hT : OwnT (w.heap.size + 3) vT (ta ++ tb) W) (hR : Row2 gS (.slice A' m' ca') (.slice B' k' cb') W) (hA : Made g7 W) (hB : w.heap.size + 3 ≤ g7) :
    wpAnyH Tryz.prog .any uOps Q (UcX w (.slice A n ca) (.slice A' m' ca') (.slice B k cb) (.slice B' k' cb')) 5 #[true, true, true, true, true, true, false, true, true, true, true, true, false, false, false, true, false] (uAct w A A' B B' n ca m' ca' k cb k' cb' (.pointer (some ⟨g7, 0, none⟩)) x20 vT undef (.slice (some ⟨gS, 0, none⟩) 2 2) undef undef undef) W := by
  have hz := S.2.2
  refine wpAnyH_ready (rs := [6]) (by kernel_rfl) (by simp) ?_
  refine AllReadyH.cons (o := { dst := some 22, op := Op.call { callee := Callee.value (Operand.func 28), args := #[Operand.tmp 21], argTypes := #[22] }, type := 22, pos := "sets.go:15", after := #[{ on := 5, ground := Ground.data }, { on := 5, ground := Ground.chain }], guard := none }) rfl (fun K hK => ?_) (AllReadyH.nil)
  all_goals dsimp only [uAct]
  · have C' := Lib.hid (once_any vT (ta ++ tb) W (hT.rt (by have := X.ln; simp; omega)) (by have := X.ln; simp; omega) X.wf)
    go_simp
    refine C'.out.mono ?_
    rintro e w5 ⟨vO, rfl, ho, hb⟩
    obtain ⟨AO, cO, rfl, -⟩ := ho.form
    refine hK.out _ _ (S.below hb) (fun S' => ?_)
    try simp only [List.setIfInBounds_toArray, List.set_cons_zero, List.set_cons_succ]
    exact uSt311 X hQ x20 _ AO cO gS g7 (w5) (S') (ho.low hz) (hR.below hb) (hA.below hb) (hB) (fun g hg => by have := (ho.lt g hg).1; have := hA.lt; omega)
set_option maxHeartbeats 8000000 in
set_option maxRecDepth 1000000 in
theorem uSt210 {w : World} {A A' B B' : Option Addr} {n ca m' ca' k cb k' cb' : Nat} {ta tb : List T3} {sa sb : List S2} (X : UCtx w A A' B B' n ca m' ca' k cb k' cb' ta tb sa sb) {Q : Exit → Act → World → Prop} (hQ : UFin w A A' B B' n ca m' ca' k cb k' cb' ta tb sa sb Q) (x20 : Value) (vT : Value) (gS : Nat) (W : World) (S : UcX w (.slice A n ca) (.slice A' m' ca') (.slice B k cb) (.slice B' k' cb') W) (hT : OwnT (w.heap.size + 3) vT (ta ++ tb) W) (hR : Row2 gS (.slice A' m' ca') (.slice B' k' cb') W) :
    wpAnyH Tryz.prog .any uOps Q (UcX w (.slice A n ca) (.slice A' m' ca') (.slice B k cb) (.slice B' k' cb')) 6 #[true, true, true, true, true, true, false, true, true, true, true, true, false, false, false, false, false] (uAct w A A' B B' n ca m' ca' k cb k' cb' undef x20 vT undef (.slice (some ⟨gS, 0, none⟩) 2 2) undef undef undef) W := by
  have hz := S.2.2
  refine wpAnyH_ready (rs := [6, 15]) (by kernel_rfl) (by simp) ?_
  refine AllReadyH.cons (o := { dst := some 22, op := Op.call { callee := Callee.value (Operand.func 28), args := #[Operand.tmp 21], argTypes := #[22] }, type := 22, pos := "sets.go:15", after := #[{ on := 5, ground := Ground.data }, { on := 5, ground := Ground.chain }], guard := none }) rfl (fun K hK => ?_) (AllReadyH.cons (o := { dst := some 7, op := Op.alloc 25, type := 0, pos := "sets.go:15", after := #[], guard := none }) rfl (fun K hK => ?_) (AllReadyH.nil))
  all_goals dsimp only [uAct]
  · have C' := Lib.hid (once_any vT (ta ++ tb) W (hT.rt (by have := X.ln; simp; omega)) (by have := X.ln; simp; omega) X.wf)
    go_simp
    refine C'.out.mono ?_
    rintro e w5 ⟨vO, rfl, ho, hb⟩
    obtain ⟨AO, cO, rfl, -⟩ := ho.form
    refine hK.out _ _ (S.below hb) (fun S' => ?_)
    try simp only [List.setIfInBounds_toArray, List.set_cons_zero, List.set_cons_succ]
    exact uSt310 X hQ x20 _ AO cO gS (w5) (S') (ho.low hz) (hR.below hb)
  · go_simp
    have hb : Below W.heap.size W (W.alloc (.cells #[.slice none 0 0, .slice none 0 0] 25)) := (Below.refl _ _).alloc (Nat.le_refl _) _
    refine hK.out _ _ (S.below hb) (fun S' => ?_)
    try simp only [List.setIfInBounds_toArray, List.set_cons_zero, List.set_cons_succ]
    exact uSt211 X hQ x20 vT gS W.heap.size (_) (S') (hT.below hb) (hR.below hb) (Made.new W) (hz)
set_option maxHeartbeats 8000000 in
set_option maxRecDepth 1000000 in
theorem uSt201 {w : World} {A A' B B' : Option Addr} {n ca m' ca' k cb k' cb' : Nat} {ta tb : List T3} {sa sb : List S2} (X : UCtx w A A' B B' n ca m' ca' k cb k' cb' ta tb sa sb) {Q : Exit → Act → World → Prop} (hQ : UFin w A A' B B' n ca m' ca' k cb k' cb' ta tb sa sb Q) (x20 : Value) (vT : Value) (g7 : Nat) (W : World) (S : UcX w (.slice A n ca) (.slice A' m' ca') (.slice B k cb) (.slice B' k' cb') W) (hT : OwnT (w.heap.size + 3) vT (ta ++ tb) W) (hA : Made g7 W) (hB : w.heap.size + 3 ≤ g7) :
    wpAnyH Tryz.prog .any uOps Q (UcX w (.slice A n ca) (.slice A' m' ca') (.slice B k cb) (.slice B' k' cb')) 6 #[true, true, true, true, true, true, false, true, true, true, true, false, false, false, false, true, false] (uAct w A A' B B' n ca m' ca' k cb k' cb' (.pointer (some ⟨g7, 0, none⟩)) x20 vT undef undef undef undef undef) W := by
  have hz := S.2.2
  refine wpAnyH_ready (rs := [6, 11]) (by kernel_rfl) (by simp) ?_
  refine AllReadyH.cons (o := { dst := some 22, op := Op.call { callee := Callee.value (Operand.func 28), args := #[Operand.tmp 21], argTypes := #[22] }, type := 22, pos := "sets.go:15", after := #[{ on := 5, ground := Ground.data }, { on := 5, ground := Ground.chain }], guard := none }) rfl (fun K hK => ?_) (AllReadyH.cons (o := { dst := some 27, op := Op.buildSlice 117 2 #[(0, Operand.tmp 24), (1, Operand.tmp 26)], type := 117, pos := "sets.go:15", after := #[{ on := 8, ground := Ground.data }, { on := 10, ground := Ground.data }], guard := none }) rfl (fun K hK => ?_) (AllReadyH.nil))
  all_goals dsimp only [uAct]
  · have C' := Lib.hid (once_any vT (ta ++ tb) W (hT.rt (by have := X.ln; simp; omega)) (by have := X.ln; simp; omega) X.wf)
    go_simp
    refine C'.out.mono ?_
    rintro e w5 ⟨vO, rfl, ho, hb⟩
    obtain ⟨AO, cO, rfl, -⟩ := ho.form
    refine hK.out _ _ (S.below hb) (fun S' => ?_)
    try simp only [List.setIfInBounds_toArray, List.set_cons_zero, List.set_cons_succ]
    exact uSt301 X hQ x20 _ AO cO g7 (w5) (S') (ho.low hz) (hA.below hb) (hB) (fun g hg => by have := (ho.lt g hg).1; have := hA.lt; omega)
  · go_simp
    have hb : Below W.heap.size W (W.alloc (.cells #[.slice A' m' ca', .slice B' k' cb'] 23)) := (Below.refl _ _).alloc (Nat.le_refl _) _
    refine hK.out _ _ (S.below hb) (fun S' => ?_)
    try simp only [List.setIfInBounds_toArray, List.set_cons_zero, List.set_cons_succ]
    exact uSt211 X hQ x20 vT W.heap.size g7 (_) (S') (hT.below hb) (Row2.new W _ _ _) (hA.below hb) (hB)
set_option maxHeartbeats 8000000 in
set_option maxRecDepth 1000000 in
theorem uSt200 {w : World} {A A' B B' : Option Addr} {n ca m' ca' k cb k' cb' : Nat} {ta tb : List T3} {sa sb : List S2} (X : UCtx w A A' B B' n ca m' ca' k cb k' cb' ta tb sa sb) {Q : Exit → Act → World → Prop} (hQ : UFin w A A' B B' n ca m' ca' k cb k' cb' ta tb sa sb Q) (x20 : Value) (vT : Value) (W : World) (S : UcX w (.slice A n ca) (.slice A' m' ca') (.slice B k cb) (.slice B' k' cb') W) (hT : OwnT (w.heap.size + 3) vT (ta ++ tb) W) :
    wpAnyH Tryz.prog .any uOps Q (UcX w (.slice A n ca) (.slice A' m' ca') (.slice B k cb) (.slice B' k' cb')) 7 #[true, true, true, true, true, true, false, true, true, true, true, false, false, false, false, false, false] (uAct w A A' B B' n ca m' ca' k cb k' cb' undef x20 vT undef undef undef undef undef) W := by
  have hz := S.2.2
  refine wpAnyH_ready (rs := [6, 11, 15]) (by kernel_rfl) (by simp) ?_
  refine AllReadyH.cons (o := { dst := some 22, op := Op.call { callee := Callee.value (Operand.func 28), args := #[Operand.tmp 21], argTypes := #[22] }, type := 22, pos := "sets.go:15", after := #[{ on := 5, ground := Ground.data }, { on := 5, ground := Ground.chain }], guard := none }) rfl (fun K hK => ?_) (AllReadyH.cons (o := { dst := some 27, op := Op.buildSlice 117 2 #[(0, Operand.tmp 24), (1, Operand.tmp 26)], type := 117, pos := "sets.go:15", after := #[{ on := 8, ground := Ground.data }, { on := 10, ground := Ground.data }], guard := none }) rfl (fun K hK => ?_) (AllReadyH.cons (o := { dst := some 7, op := Op.alloc 25, type := 0, pos := "sets.go:15", after := #[], guard := none }) rfl (fun K hK => ?_) (AllReadyH.nil)))
  all_goals dsimp only [uAct]
  · have C' := Lib.hid (once_any vT (ta ++ tb) W (hT.rt (by have := X.ln; simp; omega)) (by have := X.ln; simp; omega) X.wf)
    go_simp
    refine C'.out.mono ?_
    rintro e w5 ⟨vO, rfl, ho, hb⟩
    obtain ⟨AO, cO, rfl, -⟩ := ho.form
    refine hK.out _ _ (S.below hb) (fun S' => ?_)
    try simp only [List.setIfInBounds_toArray, List.set_cons_zero, List.set_cons_succ]
    exact uSt300 X hQ x20 _ AO cO (w5) (S') (ho.low hz)
  · go_simp
    have hb : Below W.heap.size W (W.alloc (.cells #[.slice A' m' ca', .slice B' k' cb'] 23)) := (Below.refl _ _).alloc (Nat.le_refl _) _
    refine hK.out _ _ (S.below hb) (fun S' => ?_)
    try simp only [List.setIfInBounds_toArray, List.set_cons_zero, List.set_cons_succ]
    exact uSt210 X hQ x20 vT W.heap.size (_) (S') (hT.below hb) (Row2.new W _ _ _)
  · go_simp
    have hb : Below W.heap.size W (W.alloc (.cells #[.slice none 0 0, .slice none 0 0] 25)) := (Below.refl _ _).alloc (Nat.le_refl _) _
    refine hK.out _ _ (S.below hb) (fun S' => ?_)
    try simp only [List.setIfInBounds_toArray, List.set_cons_zero, List.set_cons_succ]
    exact uSt201 X hQ x20 vT W.heap.size (_) (S') (hT.below hb) (Made.new W) (hz)
end Go.Proofs.YtcdodfehnkgjdaaGreatDoor

/- Union's region: its states, 3. -/
namespace Go.Proofs.YtcdodfehnkgjdaaGreatDoor
open Go.RowKit
set_option maxHeartbeats 8000000 in
set_option maxRecDepth 1000000 in
theorem uSt111 {w : World} {A A' B B' : Option Addr} {n ca m' ca' k cb k' cb' : Nat} {ta tb : List T3} {sa sb : List S2} (X : UCtx w A A' B B' n ca m' ca' k cb k' cb' ta tb sa sb) {Q : Exit → Act → World → Prop} (hQ : UFin w A A' B B' n ca m' ca' k cb k' cb' ta tb sa sb Q) (gT : Nat) (gS : Nat) (g7 : Nat) (W : World) (S : UcX w (.slice A n ca) (.slice A' m' ca') (.slice B k cb) (.slice B' k' cb') W) (hT : Row2 gT (.slice A n ca) (.slice B k cb) W) (hR : Row2 gS (.slice A' m' ca') (.slice B' k' cb') W) (hA : Made g7 W) (hB : w.heap.size + 3 ≤ g7) :
    wpAnyH Tryz.prog .any uOps Q (UcX w (.slice A n ca) (.slice A' m' ca') (.slice B k cb) (.slice B' k' cb')) 6 #[true, true, true, true, true, false, false, true, true, true, true, true, false, false, false, true, false] (uAct w A A' B B' n ca m' ca' k cb k' cb' (.pointer (some ⟨g7, 0, none⟩)) (.slice (some ⟨gT, 0, none⟩) 2 2) undef undef (.slice (some ⟨gS, 0, none⟩) 2 2) undef undef undef) W := by
  have hz := S.2.2
  refine wpAnyH_ready (rs := [5]) (by kernel_rfl) (by simp) ?_
  refine AllReadyH.cons (o := { dst := some 21, op := Op.call { callee := Callee.value (Operand.func 29), args := #[Operand.tmp 20], argTypes := #[113] }, type := 22, pos := "sets.go:15", after := #[{ on := 4, ground := Ground.data }], guard := none }) rfl (fun K hK => ?_) (AllReadyH.nil)
  all_goals dsimp only [uAct]
  · have C := concatT_any gT A B n ca k cb ta tb W hT.1 hT.2.1 hT.2.2 (X.rt W S).1 (X.rt W S).2.1 (by have := X.la; omega) (by have := X.la; omega)
    have C' := Lib.hid C
    clear C
    go_simp
    refine C'.out.mono ?_
    rintro e w5 ⟨vT, rfl, ho, hb⟩
    refine hK.out _ _ (S.below hb) (fun S' => ?_)
    try simp only [List.setIfInBounds_toArray, List.set_cons_zero, List.set_cons_succ]
    exact uSt211 X hQ _ vT gS g7 (w5) (S') (ho.low hz) (hR.below hb) (hA.below hb) (hB)
set_option maxHeartbeats 8000000 in
set_option maxRecDepth 1000000 in
theorem uSt110 {w : World} {A A' B B' : Option Addr} {n ca m' ca' k cb k' cb' : Nat} {ta tb : List T3} {sa sb : List S2} (X : UCtx w A A' B B' n ca m' ca' k cb k' cb' ta tb sa sb) {Q : Exit → Act → World → Prop} (hQ : UFin w A A' B B' n ca m' ca' k cb k' cb' ta tb sa sb Q) (gT : Nat) (gS : Nat) (W : World) (S : UcX w (.slice A n ca) (.slice A' m' ca') (.slice B k cb) (.slice B' k' cb') W) (hT : Row2 gT (.slice A n ca) (.slice B k cb) W) (hR : Row2 gS (.slice A' m' ca') (.slice B' k' cb') W) :
    wpAnyH Tryz.prog .any uOps Q (UcX w (.slice A n ca) (.slice A' m' ca') (.slice B k cb) (.slice B' k' cb')) 7 #[true, true, true, true, true, false, false, true, true, true, true, true, false, false, false, false, false] (uAct w A A' B B' n ca m' ca' k cb k' cb' undef (.slice (some ⟨gT, 0, none⟩) 2 2) undef undef (.slice (some ⟨gS, 0, none⟩) 2 2) undef undef undef) W := by
  have hz := S.2.2
  refine wpAnyH_ready (rs := [5, 15]) (by kernel_rfl) (by simp) ?_
  refine AllReadyH.cons (o := { dst := some 21, op := Op.call { callee := Callee.value (Operand.func 29), args := #[Operand.tmp 20], argTypes := #[113] }, type := 22, pos := "sets.go:15", after := #[{ on := 4, ground := Ground.data }], guard := none }) rfl (fun K hK => ?_) (AllReadyH.cons (o := { dst := some 7, op := Op.alloc 25, type := 0, pos := "sets.go:15", after := #[], guard := none }) rfl (fun K hK => ?_) (AllReadyH.nil))
  all_goals dsimp only [uAct]
  · have C := concatT_any gT A B n ca k cb ta tb W hT.1 hT.2.1 hT.2.2 (X.rt W S).1 (X.rt W S).2.1 (by have := X.la; omega) (by have := X.la; omega)
    have C' := Lib.hid C
    clear C
    go_simp
    refine C'.out.mono ?_
    rintro e w5 ⟨vT, rfl, ho, hb⟩
    refine hK.out _ _ (S.below hb) (fun S' => ?_)
    try simp only [List.setIfInBounds_toArray, List.set_cons_zero, List.set_cons_succ]
    exact uSt210 X hQ _ vT gS (w5) (S') (ho.low hz) (hR.below hb)
  · go_simp
    have hb : Below W.heap.size W (W.alloc (.cells #[.slice none 0 0, .slice none 0 0] 25)) := (Below.refl _ _).alloc (Nat.le_refl _) _
    refine hK.out _ _ (S.below hb) (fun S' => ?_)
    try simp only [List.setIfInBounds_toArray, List.set_cons_zero, List.set_cons_succ]
    exact uSt111 X hQ gT gS W.heap.size (_) (S') (hT.below hb) (hR.below hb) (Made.new W) (hz)
set_option maxHeartbeats 8000000 in
set_option maxRecDepth 1000000 in
theorem uSt101 {w : World} {A A' B B' : Option Addr} {n ca m' ca' k cb k' cb' : Nat} {ta tb : List T3} {sa sb : List S2} (X : UCtx w A A' B B' n ca m' ca' k cb k' cb' ta tb sa sb) {Q : Exit → Act → World → Prop} (hQ : UFin w A A' B B' n ca m' ca' k cb k' cb' ta tb sa sb Q) (gT : Nat) (g7 : Nat) (W : World) (S : UcX w (.slice A n ca) (.slice A' m' ca') (.slice B k cb) (.slice B' k' cb') W) (hT : Row2 gT (.slice A n ca) (.slice B k cb) W) (hA : Made g7 W) (hB : w.heap.size + 3 ≤ g7) :
    wpAnyH Tryz.prog .any uOps Q (UcX w (.slice A n ca) (.slice A' m' ca') (.slice B k cb) (.slice B' k' cb')) 7 #[true, true, true, true, true, false, false, true, true, true, true, false, false, false, false, true, false] (uAct w A A' B B' n ca m' ca' k cb k' cb' (.pointer (some ⟨g7, 0, none⟩)) (.slice (some ⟨gT, 0, none⟩) 2 2) undef undef undef undef undef undef) W := by
  have hz := S.2.2
  refine wpAnyH_ready (rs := [5, 11]) (by kernel_rfl) (by simp) ?_
  refine AllReadyH.cons (o := { dst := some 21, op := Op.call { callee := Callee.value (Operand.func 29), args := #[Operand.tmp 20], argTypes := #[113] }, type := 22, pos := "sets.go:15", after := #[{ on := 4, ground := Ground.data }], guard := none }) rfl (fun K hK => ?_) (AllReadyH.cons (o := { dst := some 27, op := Op.buildSlice 117 2 #[(0, Operand.tmp 24), (1, Operand.tmp 26)], type := 117, pos := "sets.go:15", after := #[{ on := 8, ground := Ground.data }, { on := 10, ground := Ground.data }], guard := none }) rfl (fun K hK => ?_) (AllReadyH.nil))
  all_goals dsimp only [uAct]
  · have C := concatT_any gT A B n ca k cb ta tb W hT.1 hT.2.1 hT.2.2 (X.rt W S).1 (X.rt W S).2.1 (by have := X.la; omega) (by have := X.la; omega)
    have C' := Lib.hid C
    clear C
    go_simp
    refine C'.out.mono ?_
    rintro e w5 ⟨vT, rfl, ho, hb⟩
    refine hK.out _ _ (S.below hb) (fun S' => ?_)
    try simp only [List.setIfInBounds_toArray, List.set_cons_zero, List.set_cons_succ]
    exact uSt201 X hQ _ vT g7 (w5) (S') (ho.low hz) (hA.below hb) (hB)
  · go_simp
    have hb : Below W.heap.size W (W.alloc (.cells #[.slice A' m' ca', .slice B' k' cb'] 23)) := (Below.refl _ _).alloc (Nat.le_refl _) _
    refine hK.out _ _ (S.below hb) (fun S' => ?_)
    try simp only [List.setIfInBounds_toArray, List.set_cons_zero, List.set_cons_succ]
    exact uSt111 X hQ gT W.heap.size g7 (_) (S') (hT.below hb) (Row2.new W _ _ _) (hA.below hb) (hB)
set_option maxHeartbeats 8000000 in
set_option maxRecDepth 1000000 in
theorem uSt100 {w : World} {A A' B B' : Option Addr} {n ca m' ca' k cb k' cb' : Nat} {ta tb : List T3} {sa sb : List S2} (X : UCtx w A A' B B' n ca m' ca' k cb k' cb' ta tb sa sb) {Q : Exit → Act → World → Prop} (hQ : UFin w A A' B B' n ca m' ca' k cb k' cb' ta tb sa sb Q) (gT : Nat) (W : World) (S : UcX w (.slice A n ca) (.slice A' m' ca') (.slice B k cb) (.slice B' k' cb') W) (hT : Row2 gT (.slice A n ca) (.slice B k cb) W) :
    wpAnyH Tryz.prog .any uOps Q (UcX w (.slice A n ca) (.slice A' m' ca') (.slice B k cb) (.slice B' k' cb')) 8 #[true, true, true, true, true, false, false, true, true, true, true, false, false, false, false, false, false] (uAct w A A' B B' n ca m' ca' k cb k' cb' undef (.slice (some ⟨gT, 0, none⟩) 2 2) undef undef undef undef undef undef) W := by
  have hz := S.2.2
  refine wpAnyH_ready (rs := [5, 11, 15]) (by kernel_rfl) (by simp) ?_
  refine AllReadyH.cons (o := { dst := some 21, op := Op.call { callee := Callee.value (Operand.func 29), args := #[Operand.tmp 20], argTypes := #[113] }, type := 22, pos := "sets.go:15", after := #[{ on := 4, ground := Ground.data }], guard := none }) rfl (fun K hK => ?_) (AllReadyH.cons (o := { dst := some 27, op := Op.buildSlice 117 2 #[(0, Operand.tmp 24), (1, Operand.tmp 26)], type := 117, pos := "sets.go:15", after := #[{ on := 8, ground := Ground.data }, { on := 10, ground := Ground.data }], guard := none }) rfl (fun K hK => ?_) (AllReadyH.cons (o := { dst := some 7, op := Op.alloc 25, type := 0, pos := "sets.go:15", after := #[], guard := none }) rfl (fun K hK => ?_) (AllReadyH.nil)))
  all_goals dsimp only [uAct]
  · have C := concatT_any gT A B n ca k cb ta tb W hT.1 hT.2.1 hT.2.2 (X.rt W S).1 (X.rt W S).2.1 (by have := X.la; omega) (by have := X.la; omega)
    have C' := Lib.hid C
    clear C
    go_simp
    refine C'.out.mono ?_
    rintro e w5 ⟨vT, rfl, ho, hb⟩
    refine hK.out _ _ (S.below hb) (fun S' => ?_)
    try simp only [List.setIfInBounds_toArray, List.set_cons_zero, List.set_cons_succ]
    exact uSt200 X hQ _ vT (w5) (S') (ho.low hz)
  · go_simp
    have hb : Below W.heap.size W (W.alloc (.cells #[.slice A' m' ca', .slice B' k' cb'] 23)) := (Below.refl _ _).alloc (Nat.le_refl _) _
    refine hK.out _ _ (S.below hb) (fun S' => ?_)
    try simp only [List.setIfInBounds_toArray, List.set_cons_zero, List.set_cons_succ]
    exact uSt110 X hQ gT W.heap.size (_) (S') (hT.below hb) (Row2.new W _ _ _)
  · go_simp
    have hb : Below W.heap.size W (W.alloc (.cells #[.slice none 0 0, .slice none 0 0] 25)) := (Below.refl _ _).alloc (Nat.le_refl _) _
    refine hK.out _ _ (S.below hb) (fun S' => ?_)
    try simp only [List.setIfInBounds_toArray, List.set_cons_zero, List.set_cons_succ]
    exact uSt101 X hQ gT W.heap.size (_) (S') (hT.below hb) (Made.new W) (hz)
end Go.Proofs.YtcdodfehnkgjdaaGreatDoor

/- Union's region: its states, 4. -/
namespace Go.Proofs.YtcdodfehnkgjdaaGreatDoor
open Go.RowKit
set_option maxHeartbeats 8000000 in
set_option maxRecDepth 1000000 in
theorem uSt011 {w : World} {A A' B B' : Option Addr} {n ca m' ca' k cb k' cb' : Nat} {ta tb : List T3} {sa sb : List S2} (X : UCtx w A A' B B' n ca m' ca' k cb k' cb' ta tb sa sb) {Q : Exit → Act → World → Prop} (hQ : UFin w A A' B B' n ca m' ca' k cb k' cb' ta tb sa sb Q) (gS : Nat) (g7 : Nat) (W : World) (S : UcX w (.slice A n ca) (.slice A' m' ca') (.slice B k cb) (.slice B' k' cb') W) (hR : Row2 gS (.slice A' m' ca') (.slice B' k' cb') W) (hA : Made g7 W) (hB : w.heap.size + 3 ≤ g7) :
    wpAnyH Tryz.prog .any uOps Q (UcX w (.slice A n ca) (.slice A' m' ca') (.slice B k cb) (.slice B' k' cb')) 7 #[true, true, true, true, false, false, false, true, true, true, true, true, false, false, false, true, false] (uAct w A A' B B' n ca m' ca' k cb k' cb' (.pointer (some ⟨g7, 0, none⟩)) undef undef undef (.slice (some ⟨gS, 0, none⟩) 2 2) undef undef undef) W := by
  have hz := S.2.2
  refine wpAnyH_ready (rs := [4]) (by kernel_rfl) (by simp) ?_
  refine AllReadyH.cons (o := { dst := some 20, op := Op.buildSlice 113 2 #[(0, Operand.tmp 17), (1, Operand.tmp 19)], type := 113, pos := "sets.go:15", after := #[{ on := 1, ground := Ground.data }, { on := 3, ground := Ground.data }], guard := none }) rfl (fun K hK => ?_) (AllReadyH.nil)
  all_goals dsimp only [uAct]
  · go_simp
    have hb : Below W.heap.size W (W.alloc (.cells #[.slice A n ca, .slice B k cb] 22)) := (Below.refl _ _).alloc (Nat.le_refl _) _
    refine hK.out _ _ (S.below hb) (fun S' => ?_)
    try simp only [List.setIfInBounds_toArray, List.set_cons_zero, List.set_cons_succ]
    exact uSt111 X hQ W.heap.size gS g7 (_) (S') (Row2.new W _ _ _) (hR.below hb) (hA.below hb) (hB)
set_option maxHeartbeats 8000000 in
set_option maxRecDepth 1000000 in
theorem uSt010 {w : World} {A A' B B' : Option Addr} {n ca m' ca' k cb k' cb' : Nat} {ta tb : List T3} {sa sb : List S2} (X : UCtx w A A' B B' n ca m' ca' k cb k' cb' ta tb sa sb) {Q : Exit → Act → World → Prop} (hQ : UFin w A A' B B' n ca m' ca' k cb k' cb' ta tb sa sb Q) (gS : Nat) (W : World) (S : UcX w (.slice A n ca) (.slice A' m' ca') (.slice B k cb) (.slice B' k' cb') W) (hR : Row2 gS (.slice A' m' ca') (.slice B' k' cb') W) :
    wpAnyH Tryz.prog .any uOps Q (UcX w (.slice A n ca) (.slice A' m' ca') (.slice B k cb) (.slice B' k' cb')) 8 #[true, true, true, true, false, false, false, true, true, true, true, true, false, false, false, false, false] (uAct w A A' B B' n ca m' ca' k cb k' cb' undef undef undef undef (.slice (some ⟨gS, 0, none⟩) 2 2) undef undef undef) W := by
  have hz := S.2.2
  refine wpAnyH_ready (rs := [4, 15]) (by kernel_rfl) (by simp) ?_
  refine AllReadyH.cons (o := { dst := some 20, op := Op.buildSlice 113 2 #[(0, Operand.tmp 17), (1, Operand.tmp 19)], type := 113, pos := "sets.go:15", after := #[{ on := 1, ground := Ground.data }, { on := 3, ground := Ground.data }], guard := none }) rfl (fun K hK => ?_) (AllReadyH.cons (o := { dst := some 7, op := Op.alloc 25, type := 0, pos := "sets.go:15", after := #[], guard := none }) rfl (fun K hK => ?_) (AllReadyH.nil))
  all_goals dsimp only [uAct]
  · go_simp
    have hb : Below W.heap.size W (W.alloc (.cells #[.slice A n ca, .slice B k cb] 22)) := (Below.refl _ _).alloc (Nat.le_refl _) _
    refine hK.out _ _ (S.below hb) (fun S' => ?_)
    try simp only [List.setIfInBounds_toArray, List.set_cons_zero, List.set_cons_succ]
    exact uSt110 X hQ W.heap.size gS (_) (S') (Row2.new W _ _ _) (hR.below hb)
  · go_simp
    have hb : Below W.heap.size W (W.alloc (.cells #[.slice none 0 0, .slice none 0 0] 25)) := (Below.refl _ _).alloc (Nat.le_refl _) _
    refine hK.out _ _ (S.below hb) (fun S' => ?_)
    try simp only [List.setIfInBounds_toArray, List.set_cons_zero, List.set_cons_succ]
    exact uSt011 X hQ gS W.heap.size (_) (S') (hR.below hb) (Made.new W) (hz)
set_option maxHeartbeats 8000000 in
set_option maxRecDepth 1000000 in
theorem uSt001 {w : World} {A A' B B' : Option Addr} {n ca m' ca' k cb k' cb' : Nat} {ta tb : List T3} {sa sb : List S2} (X : UCtx w A A' B B' n ca m' ca' k cb k' cb' ta tb sa sb) {Q : Exit → Act → World → Prop} (hQ : UFin w A A' B B' n ca m' ca' k cb k' cb' ta tb sa sb Q) (g7 : Nat) (W : World) (S : UcX w (.slice A n ca) (.slice A' m' ca') (.slice B k cb) (.slice B' k' cb') W) (hA : Made g7 W) (hB : w.heap.size + 3 ≤ g7) :
    wpAnyH Tryz.prog .any uOps Q (UcX w (.slice A n ca) (.slice A' m' ca') (.slice B k cb) (.slice B' k' cb')) 8 #[true, true, true, true, false, false, false, true, true, true, true, false, false, false, false, true, false] (uAct w A A' B B' n ca m' ca' k cb k' cb' (.pointer (some ⟨g7, 0, none⟩)) undef undef undef undef undef undef undef) W := by
  have hz := S.2.2
  refine wpAnyH_ready (rs := [4, 11]) (by kernel_rfl) (by simp) ?_
  refine AllReadyH.cons (o := { dst := some 20, op := Op.buildSlice 113 2 #[(0, Operand.tmp 17), (1, Operand.tmp 19)], type := 113, pos := "sets.go:15", after := #[{ on := 1, ground := Ground.data }, { on := 3, ground := Ground.data }], guard := none }) rfl (fun K hK => ?_) (AllReadyH.cons (o := { dst := some 27, op := Op.buildSlice 117 2 #[(0, Operand.tmp 24), (1, Operand.tmp 26)], type := 117, pos := "sets.go:15", after := #[{ on := 8, ground := Ground.data }, { on := 10, ground := Ground.data }], guard := none }) rfl (fun K hK => ?_) (AllReadyH.nil))
  all_goals dsimp only [uAct]
  · go_simp
    have hb : Below W.heap.size W (W.alloc (.cells #[.slice A n ca, .slice B k cb] 22)) := (Below.refl _ _).alloc (Nat.le_refl _) _
    refine hK.out _ _ (S.below hb) (fun S' => ?_)
    try simp only [List.setIfInBounds_toArray, List.set_cons_zero, List.set_cons_succ]
    exact uSt101 X hQ W.heap.size g7 (_) (S') (Row2.new W _ _ _) (hA.below hb) (hB)
  · go_simp
    have hb : Below W.heap.size W (W.alloc (.cells #[.slice A' m' ca', .slice B' k' cb'] 23)) := (Below.refl _ _).alloc (Nat.le_refl _) _
    refine hK.out _ _ (S.below hb) (fun S' => ?_)
    try simp only [List.setIfInBounds_toArray, List.set_cons_zero, List.set_cons_succ]
    exact uSt011 X hQ W.heap.size g7 (_) (S') (Row2.new W _ _ _) (hA.below hb) (hB)
set_option maxHeartbeats 8000000 in
set_option maxRecDepth 1000000 in
theorem uSt000 {w : World} {A A' B B' : Option Addr} {n ca m' ca' k cb k' cb' : Nat} {ta tb : List T3} {sa sb : List S2} (X : UCtx w A A' B B' n ca m' ca' k cb k' cb' ta tb sa sb) {Q : Exit → Act → World → Prop} (hQ : UFin w A A' B B' n ca m' ca' k cb k' cb' ta tb sa sb Q)  (W : World) (S : UcX w (.slice A n ca) (.slice A' m' ca') (.slice B k cb) (.slice B' k' cb') W)  :
    wpAnyH Tryz.prog .any uOps Q (UcX w (.slice A n ca) (.slice A' m' ca') (.slice B k cb) (.slice B' k' cb')) 9 #[true, true, true, true, false, false, false, true, true, true, true, false, false, false, false, false, false] (uAct w A A' B B' n ca m' ca' k cb k' cb' undef undef undef undef undef undef undef undef) W := by
  have hz := S.2.2
  refine wpAnyH_ready (rs := [4, 11, 15]) (by kernel_rfl) (by simp) ?_
  refine AllReadyH.cons (o := { dst := some 20, op := Op.buildSlice 113 2 #[(0, Operand.tmp 17), (1, Operand.tmp 19)], type := 113, pos := "sets.go:15", after := #[{ on := 1, ground := Ground.data }, { on := 3, ground := Ground.data }], guard := none }) rfl (fun K hK => ?_) (AllReadyH.cons (o := { dst := some 27, op := Op.buildSlice 117 2 #[(0, Operand.tmp 24), (1, Operand.tmp 26)], type := 117, pos := "sets.go:15", after := #[{ on := 8, ground := Ground.data }, { on := 10, ground := Ground.data }], guard := none }) rfl (fun K hK => ?_) (AllReadyH.cons (o := { dst := some 7, op := Op.alloc 25, type := 0, pos := "sets.go:15", after := #[], guard := none }) rfl (fun K hK => ?_) (AllReadyH.nil)))
  all_goals dsimp only [uAct]
  · go_simp
    have hb : Below W.heap.size W (W.alloc (.cells #[.slice A n ca, .slice B k cb] 22)) := (Below.refl _ _).alloc (Nat.le_refl _) _
    refine hK.out _ _ (S.below hb) (fun S' => ?_)
    try simp only [List.setIfInBounds_toArray, List.set_cons_zero, List.set_cons_succ]
    exact uSt100 X hQ W.heap.size (_) (S') (Row2.new W _ _ _)
  · go_simp
    have hb : Below W.heap.size W (W.alloc (.cells #[.slice A' m' ca', .slice B' k' cb'] 23)) := (Below.refl _ _).alloc (Nat.le_refl _) _
    refine hK.out _ _ (S.below hb) (fun S' => ?_)
    try simp only [List.setIfInBounds_toArray, List.set_cons_zero, List.set_cons_succ]
    exact uSt010 X hQ W.heap.size (_) (S') (Row2.new W _ _ _)
  · go_simp
    have hb : Below W.heap.size W (W.alloc (.cells #[.slice none 0 0, .slice none 0 0] 25)) := (Below.refl _ _).alloc (Nat.le_refl _) _
    refine hK.out _ _ (S.below hb) (fun S' => ?_)
    try simp only [List.setIfInBounds_toArray, List.set_cons_zero, List.set_cons_succ]
    exact uSt001 X hQ W.heap.size (_) (S') (Made.new W) (hz)
end Go.Proofs.YtcdodfehnkgjdaaGreatDoor

/- Contract of Union, where both sets are right; and whole. -/
namespace Go.Proofs.YtcdodfehnkgjdaaGreatDoor
open Go.RowKit

theorem RS.grown_ {v : Value} {l : List S2} {W W' : World} {bs : List Nat} (h : RS W.heap.size v l W) (hg : GrownL bs W W') (hn : ∀ g, v.ownBlock = some g → g ∉ bs) : RS W'.heap.size v l W' := by
  obtain ⟨A, c, e, hl, hc⟩ := h
  refine ⟨A, c, e, hl, fun hp => ?_⟩
  obtain ⟨b, o, rfl, hb, k⟩ := hc hp
  subst e
  have hnb : b ∉ bs := hn b rfl
  refine ⟨b, o, rfl, by have := hg.size; omega, fun j p f hj => ?_⟩
  obtain ⟨a0, a1⟩ := k j p f hj
  exact ⟨hg.cell a0 hnb, hg.cell a1 hnb⟩
theorem rm_parts {Bd n c n' c' : Nat} {A A' : Option Addr} {ts : List T3} {ss : List S2} {W : World} (h : RM Bd (.agg #[.slice A n c, .slice A' n' c']) ts ss W) : RT Bd (.slice A n c) ts W ∧ RS Bd (.slice A' n' c') ss W := by
  obtain ⟨_, _, _, _, _, _, e, h1, h2⟩ := h
  simp at e
  obtain ⟨⟨rfl, rfl, rfl⟩, rfl, rfl, rfl⟩ := e
  exact ⟨h1, h2⟩
theorem wfT_of {t : T3} (h : TOk t.1 t.2.1 t.2.2) : wfT t := by
  obtain ⟨a1, a2, a3, a4, a5, a6⟩ := h
  have m0 : IntKind.i64.min = -9223372036854775808 := rfl
  have m1 : IntKind.i64.max = 9223372036854775807 := rfl
  refine ⟨?_, ?_, ?_⟩ <;> (simp [Lit.wf]; omega)
theorem uctx {w : World} {A A' B B' : Option Addr} {m ca m' ca' k cb k' cb' : Nat} {ta tb : List T3} {sa sb : List S2} (h : RM w.heap.size (.agg #[.slice A m ca, .slice A' m' ca']) ta sa w) (h' : RM w.heap.size (.agg #[.slice B k cb, .slice B' k' cb']) tb sb w) (hc : CheckIs ta sa 0) (hc' : CheckIs tb sb 0) :
    UCtx w A A' B B' m ca m' ca' k cb k' cb' ta tb sa sb := by
  obtain ⟨k1, k2, k3⟩ := checkIs_ok hc
  obtain ⟨l1, l2, l3⟩ := checkIs_ok hc'
  obtain ⟨h1, h2⟩ := rm_parts h
  obtain ⟨h3, h4⟩ := rm_parts h'
  refine ⟨fun W S => ?_, ⟨?_, ?_, ?_, ?_⟩, ⟨k1, l1, k2, l2⟩, fun x hx => ?_, spOk_app ⟨k3, l3⟩⟩
  · have hb := S.1.bel
    exact ⟨h1.up hb.size hb, h3.up hb.size hb, h2.up hb.size hb, h4.up hb.size hb⟩
  · rw [h1.news.1]; exact k1
  · rw [h3.news.1]; exact l1
  · rw [h2.news.1]; exact k2
  · rw [h4.news.1]; exact l2
  · rcases List.mem_append.1 hx with hx | hx
    · exact wfT_of (k3.1 x hx)
    · exact wfT_of (l3.1 x hx)

set_option maxHeartbeats 16000000 in
set_option maxRecDepth 1000000 in
theorem union_ok_ (A A' B B' : Option Addr) (m ca m' ca' k cb k' cb' : Nat) (ta tb : List T3) (sa sb : List S2) (w : World) (h : RM w.heap.size (.agg #[.slice A m ca, .slice A' m' ca']) ta sa w) (h' : RM w.heap.size (.agg #[.slice B k cb, .slice B' k' cb']) tb sb w) (hc : CheckIs ta sa 0) (hc' : CheckIs tb sb 0) :
    Calls Tryz.prog 6 #[.agg #[.slice A m ca, .slice A' m' ca'], .agg #[.slice B k cb, .slice B' k' cb']] w (UnionPost ta sa tb sb 0 0 w) := by
  have X := Lib.hid (uctx h h' hc hc')
  have HK := Lib.hid (And.intro (checkIs_ok hc).2.2 (checkIs_ok hc').2.2)
  have C := Lib.hid fun W (S : N2d w (.slice A m ca) (.slice A' m' ca') (.slice B k cb) (.slice B' k' cb') W) => checkBoth_any _ _ ta tb sa sb 0 0 0 W (h.up S.siz S.bel) (h'.up S.siz S.bel) hc hc' (.inr ⟨rfl, rfl⟩)
  have S0 := Lib.hid (UcX.new w (.slice A m ca) (.slice A' m' ca') (.slice B k cb) (.slice B' k' cb'))
  clear h h' hc hc'
  go_enter Tryz.func6, Tryz.ntmps6
  go_wp2_with fail
  refine (C.out _ S0.out.1).mono ?_
  rintro e w1 ⟨rfl, h1⟩
  have S := Lib.hid (S0.out.below h1)
  clear h1 S0 C
  obtain ⟨t0, t1, t2, t3, _⟩ := S.out.1.out
  go_wp2_with fail
  clear t0 t1 t2 t3
  refine wp_region_held_drew (S := UcX w (.slice A m ca) (.slice A' m' ca') (.slice B k cb) (.slice B' k' cb')) (by kernel_rfl) (S.out.below (Below.refl _ _).drew) (fun hHeld => ?_)
  refine takeW (i := 0) (d := some 16) (v := ?_) rfl rfl (by kernel_rfl) (by kernel_rfl) (by kernel_rfl) (fun _ _ _ h => h) (by rfl) ?_ (by assumption) ?_
  rotate_left
  · (intro w' hSw; obtain ⟨q0, q1, q2, q3, _⟩ := hSw.1.out; go_simp; try with_reducible rfl)
  try simp only [Act.put, List.setIfInBounds_toArray, List.set_cons_zero, List.set_cons_succ]
  refine takeW (i := 1) (d := some 17) (v := ?_) rfl rfl (by kernel_rfl) (by kernel_rfl) (by kernel_rfl) (fun _ _ _ h => h) (by rfl) ?_ (by assumption) ?_
  rotate_left
  · (intro w' hSw; obtain ⟨q0, q1, q2, q3, _⟩ := hSw.1.out; go_simp; try with_reducible rfl)
  try simp only [Act.put, List.setIfInBounds_toArray, List.set_cons_zero, List.set_cons_succ]
  refine takeW (i := 2) (d := some 18) (v := ?_) rfl rfl (by kernel_rfl) (by kernel_rfl) (by kernel_rfl) (fun _ _ _ h => h) (by rfl) ?_ (by assumption) ?_
  rotate_left
  · (intro w' hSw; obtain ⟨q0, q1, q2, q3, _⟩ := hSw.1.out; go_simp; try with_reducible rfl)
  try simp only [Act.put, List.setIfInBounds_toArray, List.set_cons_zero, List.set_cons_succ]
  refine takeW (i := 3) (d := some 19) (v := ?_) rfl rfl (by kernel_rfl) (by kernel_rfl) (by kernel_rfl) (fun _ _ _ h => h) (by rfl) ?_ (by assumption) ?_
  rotate_left
  · (intro w' hSw; obtain ⟨q0, q1, q2, q3, _⟩ := hSw.1.out; go_simp; try with_reducible rfl)
  try simp only [Act.put, List.setIfInBounds_toArray, List.set_cons_zero, List.set_cons_succ]
  refine takeW (i := 7) (d := some 23) (v := ?_) rfl rfl (by kernel_rfl) (by kernel_rfl) (by kernel_rfl) (fun _ _ _ h => h) (by rfl) ?_ (by assumption) ?_
  rotate_left
  · (intro w' hSw; obtain ⟨q0, q1, q2, q3, _⟩ := hSw.1.out; go_simp; try with_reducible rfl)
  try simp only [Act.put, List.setIfInBounds_toArray, List.set_cons_zero, List.set_cons_succ]
  refine takeW (i := 8) (d := some 24) (v := ?_) rfl rfl (by kernel_rfl) (by kernel_rfl) (by kernel_rfl) (fun _ _ _ h => h) (by rfl) ?_ (by assumption) ?_
  rotate_left
  · (intro w' hSw; obtain ⟨q0, q1, q2, q3, _⟩ := hSw.1.out; go_simp; try with_reducible rfl)
  try simp only [Act.put, List.setIfInBounds_toArray, List.set_cons_zero, List.set_cons_succ]
  refine takeW (i := 9) (d := some 25) (v := ?_) rfl rfl (by kernel_rfl) (by kernel_rfl) (by kernel_rfl) (fun _ _ _ h => h) (by rfl) ?_ (by assumption) ?_
  rotate_left
  · (intro w' hSw; obtain ⟨q0, q1, q2, q3, _⟩ := hSw.1.out; go_simp; try with_reducible rfl)
  try simp only [Act.put, List.setIfInBounds_toArray, List.set_cons_zero, List.set_cons_succ]
  refine takeW (i := 10) (d := some 26) (v := ?_) rfl rfl (by kernel_rfl) (by kernel_rfl) (by kernel_rfl) (fun _ _ _ h => h) (by rfl) ?_ (by assumption) ?_
  rotate_left
  · (intro w' hSw; obtain ⟨q0, q1, q2, q3, _⟩ := hSw.1.out; go_simp; try with_reducible rfl)
  try simp only [Act.put, List.setIfInBounds_toArray, List.set_cons_zero, List.set_cons_succ]
  refine uSt000 X.out ?_ _ (by assumption)
  intro x20 x21 x27 x28 g7 AO cO AJ nJ cJ su W SW hO hJ hK hL hA hB hF hE
  have hg : GrownL [g7] W ((W.setCell ⟨g7, 0, none⟩ (.slice AO (onceL (ta ++ tb)).length cO)).setCell ⟨g7, 1, none⟩ (.slice AJ nJ cJ)) := (GrownL.set _ _ _ (by simp)).trans (GrownL.set _ _ _ (by simp))
  have U := Lib.hid (SW.grown hg (fun b hb => by simp at hb; omega))
  have O2 := Lib.hid (hO.grown hg (fun q hq hm => hE q hq (by simpa using hm)))
  have J2 := Lib.hid (hJ.grown_ hg (fun q hq hm => (hF q hq).2 (by simpa using hm)))
  have M2 : Two g7 (.slice AO (onceL (ta ++ tb)).length cO) (.slice AJ nJ cJ) ((W.setCell ⟨g7, 0, none⟩ (.slice AO (onceL (ta ++ tb)).length cO)).setCell ⟨g7, 1, none⟩ (.slice AJ nJ cJ)) := by
    have t : Two g7 (.slice none 0 0) (.slice none 0 0) W := ⟨by simp [World.cell?, hA.eq], by simp [World.cell?, hA.eq], hA.lt⟩
    exact t.set _ _
  have HJ := Lib.hid hK
  have HF := Lib.hid hF
  have HAL := Lib.hid (union_ok (tu := onceL (ta ++ tb)) (su := su) HK.out.1 HK.out.2 (fun t => mem_onceL) hK.1 hK.2)
  have HLn : Hid ((onceL (ta ++ tb)).length ≤ 48) := Lib.hid (Nat.le_trans (onceL_len (ta ++ tb)) (by have := X.out.ln; simp; omega))
  have hnJ : nJ = su.length := hJ.news.1
  subst hnJ
  generalize hW2 : (W.setCell ⟨g7, 0, none⟩ (.slice AO (onceL (ta ++ tb)).length cO)).setCell ⟨g7, 1, none⟩ (.slice AJ su.length cJ) = W2 at *
  clear hW2 hg hO hJ hK hL hA hB hF hE SW hHeld S X HK
  obtain ⟨l, hl⟩ : ∃ l, onceL (ta ++ tb) = l := ⟨_, rfl⟩
  have HLL := Lib.hid hl
  rw [hl] at O2 M2 HAL HLn ⊢
  clear hl
  have HM2 := Lib.hid M2
  have hcs : (24 < l.length ∨ 40 < su.length) ∨ (l.length ≤ 24 ∧ su.length ≤ 40) := by omega
  rcases hcs with hbig | hfit
  · have HP : Hid (UnionIs ta sa tb sb 0 0 [] [] 2) := Lib.hid (.inr (.inr ⟨rfl, rfl, su, HJ.out, .inr ⟨by rw [HLL.out]; exact hbig, rfl, rfl, rfl⟩⟩))
    have HC := Lib.hid (show CheckIs l su 2 from .inl ⟨hbig, rfl⟩)
    clear hbig
    obtain ⟨c0, c1, _⟩ := M2
    dsimp only [uAct]
    go_wp2_with fail
    refine (check_any _ _ l su 2 _ ?_ ?_ HC.out).mono ?_
    · exact (O2.out.rt (by have := HLn.out; omega))
    · exact J2.out
    rintro e w5 ⟨rfl, h5⟩
    have S := Lib.hid (U.out.below h5)
    clear h5 c0 c1 HM2 O2 J2
    obtain ⟨x0, x1, f0, f1⟩ := S.out.res
    go_wp2_with fail
    refine bodyPost_ret (v := .tuple #[.agg #[.slice none 0 0, .slice none 0 0], .int .i64 2]) ?_ rfl ?_
    · have q := S.out.setres (.slice none 0 0) (.slice none 0 0)
      simp [results, Tryz.results6, go_sem, q.1, q.2]
    · exact ⟨_, _, [], [], 2, rfl, rt_nil _ _, rs_nil _ _, S.out.setbel _ _, HP.out⟩
  · have HP : Hid (UnionIs ta sa tb sb 0 0 l su 0) := Lib.hid (.inr (.inr ⟨rfl, rfl, su, HJ.out, .inl ⟨by rw [HLL.out]; exact hfit.1, hfit.2, HLL.out.symm, rfl, rfl⟩⟩))
    have HC := Lib.hid (show CheckIs l su 0 from .inr (.inl ⟨hfit.1, hfit.2, HAL.out, rfl⟩))
    have HLe := Lib.hid hfit
    clear hfit
    obtain ⟨c0, c1, _⟩ := M2
    dsimp only [uAct]
    go_wp2_with fail
    refine (check_any _ _ l su 0 _ ?_ ?_ HC.out).mono ?_
    · exact (O2.out.rt (by have := HLe.out; omega))
    · exact J2.out
    rintro e w5 ⟨rfl, h5⟩
    have S := Lib.hid (U.out.below h5)
    have O3 := Lib.hid (O2.out.below h5)
    have J3 := Lib.hid (J2.out.up h5.size h5)
    have M3 := HM2.out.below h5
    clear h5 c0 c1 HM2 O2 J2
    obtain ⟨x0, x1, f0, f1⟩ := S.out.res
    obtain ⟨c0, c1, _⟩ := M3
    go_wp2_with fail
    refine bodyPost_ret (v := .tuple #[.agg #[.slice AO l.length cO, .slice AJ su.length cJ], .int .i64 0]) ?_ rfl ?_
    · have q := S.out.setres (.slice AO l.length cO) (.slice AJ su.length cJ)
      simp [results, Tryz.results6, go_sem, q.1, q.2]
    · have gg := (GrownL.set (bs := [w.heap.size + 2]) w5 ⟨w.heap.size + 2, 0, none⟩ (.slice AO l.length cO) (by simp)).trans (GrownL.set (bs := [w.heap.size + 2]) _ ⟨w.heap.size + 2, 1, none⟩ (.slice AJ su.length cJ) (by simp))
      exact ⟨_, _, l, su, 0, rfl, (O3.out.grown gg (fun b hb hm => by have := (O3.out.lt b hb).1; simp at hm; omega)).rt (by have := HLe.out; omega), J3.out.grown_ gg (fun b hb hm => by have := (HF.out b hb).1; simp at hm; omega), S.out.setbel _ _, HP.out⟩

theorem union_any (A A' B B' : Option Addr) (m ca m' ca' k cb k' cb' : Nat) (ta tb : List T3) (sa sb : List S2) (c d : Int) (w : World) (h : RM w.heap.size (.agg #[.slice A m ca, .slice A' m' ca']) ta sa w) (h' : RM w.heap.size (.agg #[.slice B k cb, .slice B' k' cb']) tb sb w) (hc : CheckIs ta sa c) (hc' : CheckIs tb sb d) :
    Calls Tryz.prog 6 #[.agg #[.slice A m ca, .slice A' m' ca'], .agg #[.slice B k cb, .slice B' k' cb']] w (UnionPost ta sa tb sb c d w) := by
  by_cases h0 : c ≠ 0 ∨ d ≠ 0
  · exact union_err A A' B B' m ca m' ca' k cb k' cb' ta tb sa sb c d w h h' hc hc' h0
  · obtain rfl : c = 0 := Classical.byContradiction fun h => h0 (.inl h)
    obtain rfl : d = 0 := Classical.byContradiction fun h => h0 (.inr h)
    exact union_ok_ A A' B B' m ca m' ca' k cb k' cb' ta tb sa sb w h h' hc hc'
theorem runion_any (A A' B B' : Option Addr) (m ca m' ca' k cb k' cb' : Nat) (ta tb : List T3) (sa sb : List S2) (c d : Int) (w : World) (h : RM w.heap.size (.agg #[.slice A m ca, .slice A' m' ca']) ta sa w) (h' : RM w.heap.size (.agg #[.slice B k cb, .slice B' k' cb']) tb sb w) (hc : CheckIs ta sa c) (hc' : CheckIs tb sb d) :
    Calls Tryz.prog 7 #[.agg #[.slice A m ca, .slice A' m' ca'], .agg #[.slice B k cb, .slice B' k' cb']] w (RUnionPost ta sa tb sb c d w) := by
  by_cases h0 : c ≠ 0 ∨ d ≠ 0
  · exact runion_err A A' B B' m ca m' ca' k cb k' cb' ta tb sa sb c d w h h' hc hc' h0
  · obtain rfl : c = 0 := Classical.byContradiction fun h => h0 (.inl h)
    obtain rfl : d = 0 := Classical.byContradiction fun h => h0 (.inr h)
    exact runion_ok A A' B B' m ca m' ca' k cb k' cb' ta tb sa sb w h h' hc hc'
theorem shift_any (A A' : Option Addr) (m ca m' ca' : Nat) (ts : List T3) (ss : List S2) (by_ c : Int) (w : World) (h : RM w.heap.size (.agg #[.slice A m ca, .slice A' m' ca']) ts ss w) (hc : CheckIs ts ss c) :
    Calls Tryz.prog 8 #[.agg #[.slice A m ca, .slice A' m' ca'], .int .i64 by_] w (ShiftPost ts ss by_ c w) := by
  by_cases h0 : c = 0
  · subst h0
    by_cases h1 : ss ≠ [] ∨ by_ < -1048576 ∨ 1048576 < by_
    · exact shift_arg A A' m ca m' ca' ts ss by_ w h hc h1
    · obtain rfl : ss = [] := Classical.byContradiction fun h => h1 (.inl h)
      exact shift_ok A A' m ca m' ca' ts by_ w h hc (by omega) (by omega)
  · exact shift_err A A' m ca m' ca' ts ss by_ c w h hc h0
theorem rshift_any (A A' : Option Addr) (m ca m' ca' : Nat) (ts : List T3) (ss : List S2) (by_ c : Int) (w : World) (h : RM w.heap.size (.agg #[.slice A m ca, .slice A' m' ca']) ts ss w) (hc : CheckIs ts ss c) :
    Calls Tryz.prog 9 #[.agg #[.slice A m ca, .slice A' m' ca'], .int .i64 by_] w (RShiftPost ts ss by_ c w) := by
  by_cases h0 : c = 0
  · subst h0
    by_cases h1 : ss ≠ [] ∨ by_ < -1048576 ∨ 1048576 < by_
    · exact rshift_arg A A' m ca m' ca' ts ss by_ w h hc h1
    · obtain rfl : ss = [] := Classical.byContradiction fun h => h1 (.inl h)
      exact rshift_ok A A' m ca m' ca' ts by_ w h hc (by omega) (by omega)
  · exact rshift_err A A' m ca m' ca' ts ss by_ c w h hc h0
end Go.Proofs.YtcdodfehnkgjdaaGreatDoor
