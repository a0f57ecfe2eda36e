/- Worlds in which only some blocks may have turned. -/
import Derived.RangeFuncBox
import Derived.Lib.Hide
import Derived.Test.YtkoacclbempmdaaProg
import Derived.WalkKit
import Derived.WalkSpells
import Derived.WalkLawsBesides
import Derived.BigQuiet
import Derived.StillTailTactics
import Derived.Deep.QuietTactic
import Derived.Deep.RegionHeld3
import Derived.Deep.LoopGhost
import Derived.Deep.DeepCutAuto
import Derived.Deep.DeepFit
import Derived.Outline
import Derived.IntWalk
namespace Go.Proofs.Ytkoacclbempmdaa
open Go.RowKit

/-- Only the blocks bs may have turned. -/
structure GrownL (bs : List Nat) (w w' : World) : Prop where
 os : w'.os = w.os
 tape : w'.tape = w.tape
 output : w'.output = w.output
 size : w.heap.size ≤ w'.heap.size
 block : ∀ k, k < w.heap.size → k ∉ bs → w'.heap[k]? = w.heap[k]?
section
variable {bs : List Nat} {w w1 w2 : World}
theorem GrownL.refl (bs : List Nat) (w : World) : GrownL bs w w := ⟨rfl, rfl, rfl, Nat.le_refl _, fun _ _ _ => rfl⟩
theorem GrownL.trans (h : GrownL bs w w1) (k : GrownL bs w1 w2) : GrownL bs w w2 :=
 ⟨k.os.trans h.os, k.tape.trans h.tape, k.output.trans h.output, Nat.le_trans h.size k.size, fun i hi hn => (k.block i (Nat.lt_of_lt_of_le hi h.size) hn).trans (h.block i hi hn)⟩
theorem GrownL.of_one {b : Nat} (h : w.grownBy w1 (some b)) (hb : b ∈ bs) : GrownL bs w w1 :=
 ⟨h.os, h.tape, h.output, h.size, fun k hk hn => h.block k hk (fun e => hn (by rw [Option.some.inj e]; exact hb))⟩
theorem GrownL.of_below (h : Below w.heap.size w w1) : GrownL bs w w1 := ⟨h.os, h.tape, h.output, h.size, fun k hk _ => h.block k hk⟩
theorem GrownL.cell (h : GrownL bs w w1) {p : Addr} {v : Value} (hv : w.cell? p = some v) (hn : p.block ∉ bs) : w1.cell? p = some v :=
 (World.cell?_of_block (h.block p.block (World.block_lt_of_cell? w p hv) hn)).trans hv
theorem GrownL.below {B : Nat} (h : GrownL bs w w1) (hB : ∀ b ∈ bs, B ≤ b) (hs : B ≤ w.heap.size) : Below B w w1 :=
 ⟨h.os, h.tape, h.output, h.size, fun k hk => h.block k (by omega) (fun hm => by have := hB k hm; omega)⟩
theorem GrownL.mono {bs' : List Nat} (h : GrownL bs w w1) (hs : ∀ b ∈ bs, b ∈ bs') : GrownL bs' w w1 :=
 ⟨h.os, h.tape, h.output, h.size, fun k hk hn => h.block k hk (fun hm => hn (hs k hm))⟩
theorem GrownL.drew (h : GrownL bs w w1) : GrownL bs w w1.drew := ⟨h.os, h.tape, h.output, h.size, h.block⟩
theorem GrownL.putObj (w : World) (l : Nat) (o : Obj) (hl : l ∈ bs) : GrownL bs w (w.putObj l o) :=
 ⟨rfl, rfl, rfl, by simp, fun k _ hn => World.putObj_heap_other (fun e => hn (e ▸ hl))⟩
theorem GrownL.set (w : World) (a : Addr) (v : Value) (hl : a.block ∈ bs) : GrownL bs w (w.setCell a v) :=
 ⟨rfl, rfl, rfl, by simp [World.setCell], fun k _ hn => Below.heap_setCell w a v k (fun e => hn (e ▸ hl))⟩
end

/-- The blocks O, so far as there are any, lie as they lay. -/
structure Keeps (O : List Nat) (W W' : World) : Prop where
 size : W.heap.size ≤ W'.heap.size
 same : ∀ o ∈ O, o < W.heap.size → W'.heap[o]? = W.heap[o]?
theorem Keeps.refl (O : List Nat) (W : World) : Keeps O W W := ⟨Nat.le_refl _, fun _ _ _ => rfl⟩
theorem Keeps.trans {O : List Nat} {A B C : World} (h : Keeps O A B) (k : Keeps O B C) : Keeps O A C :=
 ⟨Nat.le_trans h.size k.size, fun o ho hl => (k.same o ho (Nat.lt_of_lt_of_le hl h.size)).trans (h.same o ho hl)⟩
theorem Keeps.mono {O O' : List Nat} {W W' : World} (h : Keeps O W W') (hs : ∀ o ∈ O', o ∈ O) : Keeps O' W W' := ⟨h.size, fun o ho hl => h.same o (hs o ho) hl⟩
theorem Keeps.of_grown {O bs : List Nat} {W W' : World} (h : GrownL bs W W') (hn : ∀ o ∈ O, o ∉ bs) : Keeps O W W' := ⟨h.size, fun o ho hl => h.block o hl (hn o ho)⟩
theorem Keeps.of_below {O : List Nat} {W W' : World} (h : Below W.heap.size W W') : Keeps O W W' := ⟨h.size, fun o _ hl => h.block o hl⟩
theorem Keeps.cell {O : List Nat} {W W' : World} (h : Keeps O W W') {p : Addr} {v : Value} (hv : W.cell? p = some v) (hn : p.block ∈ O) : W'.cell? p = some v :=
 (World.cell?_of_block (h.same p.block hn (World.block_lt_of_cell? W p hv))).trans hv
theorem Keeps.obj {O : List Nat} {W W' : World} (h : Keeps O W W') {b : Nat} {o : Obj} (hv : W.heap[b]? = some o) (hn : b ∈ O) : W'.heap[b]? = some o :=
 (h.same b hn (Array.getElem?_eq_some_iff.1 hv).1).trans hv

end Go.Proofs.Ytkoacclbempmdaa

/- Works in memory, and how they read. -/
namespace Go.Proofs.Ytkoacclbempmdaa
open Go.RowKit

/-- An outlet: its ID, where it leads, its boards (where they lie, and as they read), the ends of its leak and of its loss. -/
structure Ou where
 id : Int
 into : Int
 pa : Option Addr
 pc : Nat
 ps : List Int
 k0 : Int
 k1 : Int
 s0 : Int
 s1 : Int
abbrev Ou.pv (x : Ou) : Value := .slice x.pa x.ps.length x.pc
abbrev Wk := List (List Ou)
/-- A number of elements that a slice can have. -/
abbrev Fits (n : Nat) : Prop := n ≤ 1000000000000000

/-- A slice of numbers that reads as a list, below block B. -/
def RI (B : Nat) (v : Value) (l : List Int) (w : World) : Prop :=
 ∃ A c, v = .slice A l.length c ∧ Fits l.length ∧ (0 < l.length → ∃ b o, A = some ⟨b, o, none⟩ ∧ b < B ∧ ∀ k n, l[k]? = some n → w.cell? ⟨b, o + k, none⟩ = some (.int .i64 n))
/-- The cells of an outlet. -/
structure OuAt (B b o : Nat) (x : Ou) (w : World) : Prop where
 id : w.cell? ⟨b, o, none⟩ = some (.int .i64 x.id)
 into : w.cell? ⟨b, o + 1, none⟩ = some (.int .i64 x.into)
 pv : w.cell? ⟨b, o + 2, none⟩ = some x.pv
 ps : RI B x.pv x.ps w
 k0 : w.cell? ⟨b, o + 3, none⟩ = some (.int .i64 x.k0)
 k1 : w.cell? ⟨b, o + 4, none⟩ = some (.int .i64 x.k1)
 s0 : w.cell? ⟨b, o + 5, none⟩ = some (.int .i64 x.s0)
 s1 : w.cell? ⟨b, o + 6, none⟩ = some (.int .i64 x.s1)
/-- A slice of outlets. -/
def RO (B : Nat) (v : Value) (l : List Ou) (w : World) : Prop :=
 ∃ A c, v = .slice A l.length c ∧ Fits l.length ∧ (0 < l.length → ∃ b o, A = some ⟨b, o, none⟩ ∧ b < B ∧ ∀ k x, l[k]? = some x → OuAt B b (o + k * 7) x w)
/-- A slice of carriers. -/
def RK (B : Nat) (v : Value) (l : Wk) (w : World) : Prop :=
 ∃ A c, v = .slice A l.length c ∧ Fits l.length ∧ (0 < l.length → ∃ b o, A = some ⟨b, o, none⟩ ∧ b < B ∧ ∀ k x, l[k]? = some x → ∃ u, w.cell? ⟨b, o + k, none⟩ = some u ∧ RO B u x w)

section
variable {B B' : Nat} {v : Value} {w w' : World}
theorem RI.up {l : List Int} (h : RI B v l w) (hB : B ≤ B') (hb : Below B w w') : RI B' v l w' := by
 obtain ⟨A, c, e, hl, hc⟩ := h
 refine ⟨A, c, e, hl, fun hp => ?_⟩
 obtain ⟨b, o, e2, hlt, k⟩ := hc hp
 exact ⟨b, o, e2, Nat.lt_of_lt_of_le hlt hB, fun i n hi => (hb.cell (p := ⟨b, o + i, none⟩) hlt).trans (k i n hi)⟩
theorem OuAt.up {b o : Nat} {x : Ou} (h : OuAt B b o x w) (hlt : b < B) (hB : B ≤ B') (hb : Below B w w') : OuAt B' b o x w' := by
 obtain ⟨h0, h1, h2, h3, h4, h5, h6, h7⟩ := h
 exact ⟨(hb.cell (p := ⟨b, _, none⟩) hlt).trans h0, (hb.cell (p := ⟨b, _, none⟩) hlt).trans h1, (hb.cell (p := ⟨b, _, none⟩) hlt).trans h2, h3.up hB hb, (hb.cell (p := ⟨b, _, none⟩) hlt).trans h4, (hb.cell (p := ⟨b, _, none⟩) hlt).trans h5, (hb.cell (p := ⟨b, _, none⟩) hlt).trans h6, (hb.cell (p := ⟨b, _, none⟩) hlt).trans h7⟩
theorem RO.up {l : List Ou} (h : RO B v l w) (hB : B ≤ B') (hb : Below B w w') : RO B' v l w' := by
 obtain ⟨A, c, e, hl, hc⟩ := h
 refine ⟨A, c, e, hl, fun hp => ?_⟩
 obtain ⟨b, o, e2, hlt, k⟩ := hc hp
 exact ⟨b, o, e2, Nat.lt_of_lt_of_le hlt hB, fun i x hi => (k i x hi).up hlt hB hb⟩
theorem RK.up {l : Wk} (h : RK B v l w) (hB : B ≤ B') (hb : Below B w w') : RK B' v l w' := by
 obtain ⟨A, c, e, hl, hc⟩ := h
 refine ⟨A, c, e, hl, fun hp => ?_⟩
 obtain ⟨b, o, e2, hlt, k⟩ := hc hp
 refine ⟨b, o, e2, Nat.lt_of_lt_of_le hlt hB, fun i x hi => ?_⟩
 obtain ⟨u, hu, hr⟩ := k i x hi
 exact ⟨u, (hb.cell (p := ⟨b, o + i, none⟩) hlt).trans hu, hr.up hB hb⟩
theorem RI.slice {l : List Int} (h : RI B v l w) : ∃ A c, v = .slice A l.length c := by obtain ⟨A, c, e, _⟩ := h; exact ⟨A, c, e⟩
theorem RO.slice {l : List Ou} (h : RO B v l w) : ∃ A c, v = .slice A l.length c := by obtain ⟨A, c, e, _⟩ := h; exact ⟨A, c, e⟩
theorem RK.slice {l : Wk} (h : RK B v l w) : ∃ A c, v = .slice A l.length c := by obtain ⟨A, c, e, _⟩ := h; exact ⟨A, c, e⟩
theorem RI.fits {l : List Int} (h : RI B v l w) : Fits l.length := by obtain ⟨_, _, _, hl, _⟩ := h; exact hl
theorem RO.fits {l : List Ou} (h : RO B v l w) : Fits l.length := by obtain ⟨_, _, _, hl, _⟩ := h; exact hl
theorem RK.fits {l : Wk} (h : RK B v l w) : Fits l.length := by obtain ⟨_, _, _, hl, _⟩ := h; exact hl
end
theorem ri_nil (B : Nat) (w : World) : RI B (.slice none 0 0) [] w := ⟨none, 0, rfl, by simp, fun h => by simp at h⟩
theorem ro_nil (B : Nat) (w : World) : RO B (.slice none 0 0) [] w := ⟨none, 0, rfl, by simp, fun h => by simp at h⟩
theorem rk_nil (B : Nat) (w : World) : RK B (.slice none 0 0) [] w := ⟨none, 0, rfl, by simp, fun h => by simp at h⟩

/-- Works that a function holds in its first block. -/
def Wd (w : World) (v : Value) (W : World) : Prop := W.cell? ⟨w.heap.size, 0, none⟩ = some v ∧ w.heap.size < W.heap.size ∧ Below w.heap.size w W
section
variable {w W W' : World} {v : Value}
theorem Wd.c (h : Wd w v W) : W.cell? ⟨w.heap.size, 0, none⟩ = some v := h.1
theorem Wd.bel (h : Wd w v W) : Below w.heap.size w W := h.2.2
theorem Wd.siz (h : Wd w v W) : w.heap.size ≤ W.heap.size := h.bel.size
theorem Wd.below (h : Wd w v W) (hb : Below W.heap.size W W') : Wd w v W' := ⟨(hb.cell (p := ⟨w.heap.size, 0, none⟩) h.2.1).trans h.1, Nat.lt_of_lt_of_le h.2.1 hb.size, h.2.2.trans (hb.mono h.siz)⟩
theorem Wd.new (t : TypeId) : Wd w v (w.alloc (.cells #[v] t)) := ⟨by simp [go_sem], by simp, (Below.refl _ _).alloc (Nat.le_refl _) _⟩
theorem Wd.alloc (h : Wd w v W) (o : Obj) : Wd w v (W.alloc o) := h.below ((Below.refl _ _).alloc (Nat.le_refl _) o)
theorem Wd.drew (h : Wd w v W) : Wd w v W.drew := h.below (Below.refl _ _).drew
end
/-- The value of an outlet. -/
abbrev ouV (x : Ou) : Value := .agg #[.int .i64 x.id, .int .i64 x.into, x.pv, .int .i64 x.k0, .int .i64 x.k1, .int .i64 x.s0, .int .i64 x.s1]
abbrev sv2 (lo hi : Int) : Value := .agg #[.int .i64 lo, .int .i64 hi]
theorem flip_same {P : Program} {f : FuncId} {args : Array Value} {w : World} {v : Value} (h : Calls P f args w fun e w' => e = .returned v ∧ w = w') : Calls P f args w fun e w' => e = .returned v ∧ w' = w :=
 h.mono fun _ _ ⟨a, b⟩ => ⟨a, b.symm⟩
end Go.Proofs.Ytkoacclbempmdaa

/- Contracts of the tests on numbers and spans. -/
namespace Go.Proofs.Ytkoacclbempmdaa
open Go.RowKit

/-- A number from lo to hi. -/
def inB (lo hi n : Int) : Bool := decide (lo ≤ n) && decide (n ≤ hi)
theorem inB_iff {lo hi n : Int} : inB lo hi n = true ↔ lo ≤ n ∧ n ≤ hi := by simp [inB]
/-- A span within lo to hi. -/
def spB (lo hi a b : Int) : Bool := decide (lo ≤ a) && (decide (a ≤ b) && decide (b ≤ hi))
theorem spB_iff {lo hi a b : Int} : spB lo hi a b = true ↔ lo ≤ a ∧ a ≤ b ∧ b ≤ hi := by simp [spB]
/-- Where an outlet of carrier c can lead, of m carriers. -/
def intoB (i c m : Int) : Bool := decide (i = -1) || (decide (c < i) && decide (i < m))
theorem intoB_iff {i c m : Int} : intoB i c m = true ↔ i = -1 ∨ (c < i ∧ i < m) := by simp [intoB]
theorem ret_bool {a b : Bool} (h : a = b) : Ending.returned (.bool a) = .returned (.bool b) := by rw [h]

set_option maxHeartbeats 400000 in
theorem flows_any (w : World) : Calls Try.prog 97 #[] w fun e w' => e = .returned (sv2 0 1048576) ∧ Below w.heap.size w w' := by
 go_enter Try.func97, Try.ntmps97
 go_wp2_with fail
 refine bodyPost_ret (v := sv2 0 1048576) ?_ rfl ⟨rfl, (Below.refl _ _).alloc (Nat.le_refl _) _⟩
 simp [results, Try.results97, go_sem]
set_option maxHeartbeats 800000 in
theorem hasN_any (lo hi n : Int) (w : World) : Calls Try.prog 134 #[sv2 lo hi, .int .i64 n] w fun e w' => e = .returned (.bool (inB lo hi n)) ∧ Below w.heap.size w w' := by
 have HV : Hid (∀ x, x = (inB lo hi n) → Ending.returned (.bool x) = .returned (.bool (inB lo hi n))) := Lib.hid fun x h => by rw [h]
 have hc : (lo ≤ n) ∨ (n < lo) := by omega
 generalize hb : (inB lo hi n) = r at HV ⊢
 have HB := Lib.hid hb
 clear hb
 rcases hc with h0 | h0
 all_goals
  go_enter Try.func134, Try.ntmps134
  go_wp2_with fail
  go_ret
  refine ⟨HV.out _ ?_, ?_⟩
  ·rw [← HB.out, Bool.eq_iff_iff]
   simp [inB]
   try omega
  ·first | exact Below.refl _ _ | exact (Below.refl _ _).alloc (Nat.le_refl _) _ | exact ((Below.refl _ _).alloc (Nat.le_refl _) _).alloc (by simp) _
set_option maxHeartbeats 800000 in
theorem within_any (n lo hi : Int) (w : World) : Calls Try.prog 129 #[.int .i64 n, .int .i64 lo, .int .i64 hi] w fun e w' => e = .returned (.bool (inB lo hi n)) ∧ Below w.heap.size w w' := by
 have HV : Hid (∀ x, x = (inB lo hi n) → Ending.returned (.bool x) = .returned (.bool (inB lo hi n))) := Lib.hid fun x h => by rw [h]
 have hc : (lo ≤ n) ∨ (n < lo) := by omega
 generalize hb : (inB lo hi n) = r at HV ⊢
 have HB := Lib.hid hb
 clear hb
 rcases hc with h0 | h0
 all_goals
  go_enter Try.func129, Try.ntmps129
  go_wp2_with fail
  go_ret
  refine ⟨HV.out _ ?_, ?_⟩
  ·rw [← HB.out, Bool.eq_iff_iff]
   simp [inB]
   try omega
  ·first | exact Below.refl _ _ | exact (Below.refl _ _).alloc (Nat.le_refl _) _ | exact ((Below.refl _ _).alloc (Nat.le_refl _) _).alloc (by simp) _
set_option maxHeartbeats 800000 in
theorem isWithin_any (a b lo hi : Int) (w : World) : Calls Try.prog 122 #[sv2 a b, sv2 lo hi] w fun e w' => e = .returned (.bool (spB lo hi a b)) ∧ Below w.heap.size w w' := by
 have HV : Hid (∀ x, x = (spB lo hi a b) → Ending.returned (.bool x) = .returned (.bool (spB lo hi a b))) := Lib.hid fun x h => by rw [h]
 have hc : (lo ≤ a ∧ a ≤ b) ∨ (lo ≤ a ∧ b < a) ∨ (a < lo) := by omega
 generalize hb : (spB lo hi a b) = r at HV ⊢
 have HB := Lib.hid hb
 clear hb
 rcases hc with ⟨h0, h1⟩ | ⟨h0, h1⟩ | h0
 all_goals
  go_enter Try.func122, Try.ntmps122
  go_wp2_with fail
  go_ret
  refine ⟨HV.out _ ?_, ?_⟩
  ·rw [← HB.out, Bool.eq_iff_iff]
   simp [spB]
   try omega
  ·first | exact Below.refl _ _ | exact (Below.refl _ _).alloc (Nat.le_refl _) _ | exact ((Below.refl _ _).alloc (Nat.le_refl _) _).alloc (by simp) _
set_option maxHeartbeats 800000 in
theorem rflows_any (a b : Int) (w : World) : Calls Try.prog 139 #[sv2 a b] w fun e w' => e = .returned (.bool (spB 0 1048576 a b)) ∧ Below w.heap.size w w' := by
 have HV : Hid (∀ x, x = (spB 0 1048576 a b) → Ending.returned (.bool x) = .returned (.bool (spB 0 1048576 a b))) := Lib.hid fun x h => by rw [h]
 have hc : (0 ≤ a ∧ a ≤ b) ∨ (0 ≤ a ∧ b < a) ∨ (a < 0) := by omega
 generalize hb : (spB 0 1048576 a b) = r at HV ⊢
 have HB := Lib.hid hb
 clear hb
 rcases hc with ⟨h0, h1⟩ | ⟨h0, h1⟩ | h0
 all_goals
  go_enter Try.func139, Try.ntmps139
  go_wp2_with fail
  go_ret
  refine ⟨HV.out _ ?_, ?_⟩
  ·rw [← HB.out, Bool.eq_iff_iff]
   simp [spB]
   try omega
  ·first | exact Below.refl _ _ | exact (Below.refl _ _).alloc (Nat.le_refl _) _ | exact ((Below.refl _ _).alloc (Nat.le_refl _) _).alloc (by simp) _
set_option maxHeartbeats 800000 in
theorem isInto_any (i c m : Int) (w : World) : Calls Try.prog 115 #[.int .i64 i, .int .i64 c, .int .i64 m] w fun e w' => e = .returned (.bool (intoB i c m)) ∧ Below w.heap.size w w' := by
 have HV : Hid (∀ x, x = (intoB i c m) → Ending.returned (.bool x) = .returned (.bool (intoB i c m))) := Lib.hid fun x h => by rw [h]
 have hc : (i = -1) ∨ (¬ i = -1 ∧ c < i) ∨ (¬ i = -1 ∧ i ≤ c) := by omega
 generalize hb : (intoB i c m) = r at HV ⊢
 have HB := Lib.hid hb
 clear hb
 rcases hc with h0 | ⟨h0, h1⟩ | ⟨h0, h1⟩
 all_goals
  go_enter Try.func115, Try.ntmps115
  go_wp2_with fail
  go_ret
  refine ⟨HV.out _ ?_, ?_⟩
  ·rw [← HB.out, Bool.eq_iff_iff]
   simp [intoB]
   try omega
  ·first | exact Below.refl _ _ | exact (Below.refl _ _).alloc (Nat.le_refl _) _ | exact ((Below.refl _ _).alloc (Nat.le_refl _) _).alloc (by simp) _
end Go.Proofs.Ytkoacclbempmdaa

/- Plain mathematics of works: their outlets in order, with their places. -/
namespace Go.Proofs.Ytkoacclbempmdaa

/-- The place of an outlet, and the outlet. -/
structure Pl where
 at_ : Nat
 c : Nat
 n : Nat
 o : Ou
/-- How many outlets lie on the first carriers. -/
def pre (ws : Wk) (c : Nat) : Nat := ((ws.take c).map List.length).sum
def total (ws : Wk) : Nat := pre ws ws.length
def row (a c : Nat) : Nat → List Ou → List Pl
 | _, [] => []
 | n, o :: os => ⟨a + n, c, n, o⟩ :: row a c (n + 1) os
def plc : Nat → Nat → Wk → List Pl
 | _, _, [] => []
 | a, c, os :: r => row a c 0 os ++ plc (a + os.length) (c + 1) r
/-- All outlets, in order, with their places. -/
def allP (ws : Wk) : List Pl := plc 0 0 ws
theorem row_len (a c : Nat) : ∀ (n : Nat) (os : List Ou), (row a c n os).length = os.length
 | _, [] => rfl
 | n, o :: os => by simp [row, row_len a c (n + 1) os]
theorem row_get (a c : Nat) : ∀ (m : Nat) (os : List Ou) (n : Nat) (o : Ou), os[n]? = some o → (row a c m os)[n]? = some ⟨a + (m + n), c, m + n, o⟩
 | _, [], _, _, h => by simp at h
 | m, x :: os, 0, o, h => by
  simp at h
  subst h
  simp [row]
 | m, x :: os, n + 1, o, h => by
  have := row_get a c (m + 1) os n o (by simpa using h)
  simp [row, this]
  omega
theorem pre_zero (ws : Wk) : pre ws 0 = 0 := by simp [pre]
theorem pre_succ {ws : Wk} {c : Nat} {os : List Ou} (h : ws[c]? = some os) : pre ws (c + 1) = pre ws c + os.length := by
 obtain ⟨h1, h2⟩ := List.getElem?_eq_some_iff.1 h
 unfold pre
 rw [List.take_succ_eq_append_getElem h1, h2]
 simp
theorem pre_cons (os : List Ou) (r : Wk) (c : Nat) : pre (os :: r) (c + 1) = os.length + pre r c := by simp [pre]
theorem plc_len : ∀ (a c : Nat) (ws : Wk), (plc a c ws).length = total ws
 | _, _, [] => rfl
 | a, c, os :: r => by
  rw [plc, List.length_append, row_len, plc_len]
  show _ = pre (os :: r) (r.length + 1)
  rw [pre_cons]
  rfl
theorem plc_get : ∀ (a k : Nat) (ws : Wk) (c n : Nat) (os : List Ou) (o : Ou), ws[c]? = some os → os[n]? = some o → (plc a k ws)[pre ws c + n]? = some ⟨a + pre ws c + n, k + c, n, o⟩
 | _, _, [], _, _, _, _, h, _ => by simp at h
 | a, k, x :: r, 0, n, os, o, h, h' => by
  simp at h
  subst h
  have hn := (List.getElem?_eq_some_iff.1 h').1
  rw [pre_zero, Nat.zero_add, plc, List.getElem?_append_left (by rw [row_len]; exact hn), row_get a k 0 _ n o h']
  simp
 | a, k, x :: r, c + 1, n, os, o, h, h' => by
  have := plc_get (a + x.length) (k + 1) r c n os o (by simpa using h) h'
  rw [plc, pre_cons, List.getElem?_append_right (by rw [row_len]; omega), row_len, show x.length + pre r c + n - x.length = pre r c + n by omega, this]
  simp
  omega
theorem allP_len (ws : Wk) : (allP ws).length = total ws := plc_len 0 0 ws
theorem allP_get {ws : Wk} {c n : Nat} {os : List Ou} {o : Ou} (h : ws[c]? = some os) (h' : os[n]? = some o) : (allP ws)[pre ws c + n]? = some ⟨pre ws c + n, c, n, o⟩ := by
 have := plc_get 0 0 ws c n os o h h'
 simpa [allP] using this
theorem pre_mono {ws : Wk} {c d : Nat} (h : c ≤ d) : pre ws c ≤ pre ws d := by
 induction d with
 | zero => rw [show c = 0 by omega]; exact Nat.le_refl _
 | succ d ih =>
  rcases Nat.lt_or_ge c (d + 1) with h' | h'
  ·refine Nat.le_trans (ih (by omega)) ?_
   by_cases hd : d < ws.length
   ·rw [pre_succ (List.getElem?_eq_getElem hd)]; omega
   ·unfold pre
    rw [List.take_of_length_le (by omega), List.take_of_length_le (by omega)]
    exact Nat.le_refl _
  ·rw [show c = d + 1 by omega]; exact Nat.le_refl _
theorem pre_le (ws : Wk) (c : Nat) : pre ws c ≤ total ws := by
 by_cases h : c ≤ ws.length
 ·exact pre_mono h
 ·unfold total pre
  rw [List.take_of_length_le (by omega), List.take_of_length_le (Nat.le_refl _)]
  exact Nat.le_refl _
theorem pre_lt {ws : Wk} {c n : Nat} {os : List Ou} (h : ws[c]? = some os) (hn : n < os.length) : pre ws c + n < total ws := by
 have := pre_le ws (c + 1)
 rw [pre_succ h] at this
 omega
/-- Each place is found by its carrier and its number there. -/
theorem allP_inv {ws : Wk} {i : Nat} {p : Pl} (h : (allP ws)[i]? = some p) : p.at_ = i ∧ ∃ os, ws[p.c]? = some os ∧ os[p.n]? = some p.o ∧ i = pre ws p.c + p.n := by
 have hi : i < total ws := by rw [← allP_len]; exact (List.getElem?_eq_some_iff.1 h).1
 have key : ∀ c, c ≤ ws.length → i < pre ws c → ∃ d os n, d < c ∧ ws[d]? = some os ∧ n < os.length ∧ i = pre ws d + n := by
  intro c
  induction c with
  | zero => intro _ h; rw [pre_zero] at h; omega
  | succ c ih =>
   intro hc h
   have hcl : c < ws.length := by omega
   by_cases h2 : i < pre ws c
   ·obtain ⟨d, os, n, h3, h4⟩ := ih (by omega) h2
    exact ⟨d, os, n, by omega, h4⟩
   ·have e := pre_succ (List.getElem?_eq_getElem hcl)
    exact ⟨c, _, i - pre ws c, by omega, List.getElem?_eq_getElem hcl, by omega, by omega⟩
 obtain ⟨d, os, n, _, h1, h2, h3⟩ := key ws.length (Nat.le_refl _) hi
 have h4 := allP_get h1 (List.getElem?_eq_getElem h2)
 rw [← h3, h] at h4
 cases h4
 exact ⟨rfl, os, h1, List.getElem?_eq_getElem h2, h3⟩
/-- The outlets alone, in order. -/
def outs (ws : Wk) : List Ou := (allP ws).map (·.o)
theorem outs_len (ws : Wk) : (outs ws).length = total ws := by simp [outs, allP_len]
theorem row_map (a c : Nat) : ∀ (n : Nat) (os : List Ou), (row a c n os).map (·.o) = os
 | _, [] => rfl
 | n, o :: os => by simp [row, row_map a c (n + 1) os]
theorem plc_map : ∀ (a c : Nat) (ws : Wk), (plc a c ws).map (·.o) = ws.flatten
 | _, _, [] => rfl
 | a, c, os :: r => by rw [plc, List.map_append, row_map, plc_map, List.flatten_cons]
theorem outs_flatten (ws : Wk) : outs ws = ws.flatten := plc_map 0 0 ws
end Go.Proofs.Ytkoacclbempmdaa

/- Contracts of count, boards, arePasses. -/
namespace Go.Proofs.Ytkoacclbempmdaa
open Go.RowKit

set_option maxHeartbeats 4000000 in
set_option maxRecDepth 100000 in
theorem count_any (A : Option Addr) (n c : Nat) (ws : Wk) (w : World) (h : RK w.heap.size (.slice A n c) ws w) (ht : total ws ≤ 1000000) :
  Calls Try.prog 81 #[.agg #[.slice A n c]] w fun e w' => e = .returned (.int .i64 (total ws)) ∧ Below w.heap.size w w' := by
 obtain ⟨A0, c0, e0, n1, hx⟩ := h
 obtain ⟨rfl, rfl, rfl⟩ : A = A0 ∧ n = ws.length ∧ c = c0 := by simpa using e0
 have HX := Lib.hid hx
 have S0 := Lib.hid (Wd.new (w := w) (v := .slice A ws.length c) 24)
 clear hx e0
 go_enter Try.func81, Try.ntmps81
 go_wp2_with fail
 go_loopw [3, 9] (fun s u wr => ∃ k : Nat, u = .int .i64 k ∧ k ≤ ws.length ∧ s = .int .i64 (pre ws k) ∧ Below w.heap.size w wr) (fun _ u _ => ws.length - (intOf u).toNat)
 case atStart => exact ⟨0, rfl, by omega, by rw [pre_zero]; rfl, S0.out.bel⟩
 case round =>
  obtain ⟨k, rfl, hk, rfl, hS⟩ := hrel
  have S := Lib.hid hS
  clear hS S0
  by_cases hkl : k < ws.length
  ·obtain ⟨b, o, rfl, hbB, hcs⟩ := HX.out (by omega)
   have hk0 : (k : Int) < (ws.length : Int) := by omega
   obtain ⟨os, hos⟩ : ∃ os, ws[k]? = some os := ⟨_, List.getElem?_eq_getElem hkl⟩
   obtain ⟨u, hu, hr⟩ := hcs k os hos
   obtain ⟨A1, c1, rfl, n2, hy⟩ := hr
   have d0 := (S.out.cell (p := ⟨b, o + k, none⟩) hbB).trans hu
   have hp := pre_succ hos
   have hq : pre ws (k + 1) ≤ total ws := pre_le ws (k + 1)
   have hb1 : (pre ws k : Int) + os.length ≤ 1000000 := by omega
   have HP := Lib.hid hp
   clear hu hy hos hcs hp hq
   have hb0 : (0 : Int) ≤ (pre ws k : Int) := by omega
   obtain ⟨q, hq⟩ : ∃ q, pre ws k = q := ⟨_, rfl⟩
   rw [hq] at hb1 hb0 HP ⊢
   clear hq
   go_wp2_with fail
   go_roundw
   case rel => exact ⟨k + 1, by go_num, by omega, by rw [HP.out]; simp, S.out.trans (((Below.refl wr.heap.size wr).alloc (Nat.le_refl _) _).mono S.out.size)⟩
   case measure => show ws.length - ((k : Int) + 1).toNat < ws.length - (k : Int).toNat; omega
  ·have hk0 : (ws.length : Int) ≤ (k : Int) := by omega
   obtain rfl : k = ws.length := by omega
   go_wp2_with fail
   go_ret
   exact ⟨rfl, S.out⟩

def psGo : Int → List Int → Bool
 | _, [] => true
 | last, n :: r => decide (last < n) && (decide (n ≤ 1048576) && psGo n r)
/-- Boards that are right. -/
def psB (l : List Int) : Bool := decide (1 ≤ l.length) && (decide (l.length ≤ 8) && psGo (-1) l)
theorem psGo_drop {l : List Int} {k : Nat} {n : Int} (h : l[k]? = some n) (last : Int) : psGo last (l.drop k) = (decide (last < n) && (decide (n ≤ 1048576) && psGo n (l.drop (k + 1)))) := by
 obtain ⟨h1, h2⟩ := List.getElem?_eq_some_iff.1 h
 rw [List.drop_eq_getElem_cons h1, h2]
 rfl
set_option maxHeartbeats 4000000 in
set_option maxRecDepth 100000 in
theorem arePasses_any (v : Value) (l : List Int) (w : World) (h : RI w.heap.size v l w) :
  Calls Try.prog 138 #[v] w fun e w' => e = .returned (.bool (psB l)) ∧ Below w.heap.size w w' := by
 obtain ⟨A, c, rfl, n1, hx⟩ := h
 have HX := Lib.hid hx
 clear hx
 obtain ⟨r, hr⟩ : ∃ r, psB l = r := ⟨_, rfl⟩
 have HR := Lib.hid hr
 rw [hr]
 clear hr
 have hs : (l.length : Int) < 1 ∨ (1 ≤ (l.length : Int) ∧ 8 < (l.length : Int)) ∨ (1 ≤ (l.length : Int) ∧ (l.length : Int) ≤ 8) := by omega
 rcases hs with a1 | ⟨a1, a2⟩ | ⟨a1, a2⟩
 ·have HF : Hid (r = false) := Lib.hid (by rw [← HR.out]; unfold psB; rw [decide_eq_false (by omega)]; rfl)
  go_enter Try.func138, Try.ntmps138
  go_wp2_with fail
  go_ret
  exact ⟨ret_bool HF.out.symm, Below.refl _ _⟩
 ·have HF : Hid (r = false) := Lib.hid (by rw [← HR.out]; unfold psB; rw [decide_eq_false (p := l.length ≤ 8) (by omega)]; simp)
  go_enter Try.func138, Try.ntmps138
  go_wp2_with fail
  go_ret
  exact ⟨ret_bool HF.out.symm, Below.refl _ _⟩
 ·have HG : Hid (r = psGo (-1) l) := Lib.hid (by rw [← HR.out]; unfold psB; rw [decide_eq_true (p := 1 ≤ l.length) (by omega), decide_eq_true (p := l.length ≤ 8) (by omega)]; rfl)
  go_enter Try.func138, Try.ntmps138
  go_wp2_with fail
  go_loopw [15] (fun u wr => ∃ (k : Nat) (last : Int), u = .int .i64 k ∧ k ≤ l.length ∧ (k = 0 → last = -1) ∧ (0 < k → 0 ≤ last ∧ l[k - 1]? = some last) ∧ r = psGo last (l.drop k) ∧ Below w.heap.size w wr) (fun u _ => l.length - (intOf u).toNat)
  case atStart => exact ⟨0, -1, rfl, by omega, fun _ => rfl, fun h => by omega, HG.out, Below.refl _ _⟩
  case round =>
   obtain ⟨k, last, rfl, hk, hk1, hk2, hg, hS⟩ := hrel
   have S := Lib.hid hS
   clear hS
   by_cases hkl : k < l.length
   ·obtain ⟨b, o, rfl, hbB, hcs⟩ := HX.out (by omega)
    have hk0 : (k : Int) < (l.length : Int) := by omega
    obtain ⟨n, hn⟩ : ∃ n, l[k]? = some n := ⟨_, List.getElem?_eq_getElem hkl⟩
    have d0 := (S.out.cell (p := ⟨b, o + k, none⟩) hbB).trans (hcs k n hn)
    have HN := Lib.hid hn
    have HG2 : Hid (r = (decide (last < n) && (decide (n ≤ 1048576) && psGo n (l.drop (k + 1))))) := Lib.hid (by rw [hg, psGo_drop hn])
    clear hg hn
    by_cases hin : 0 ≤ n ∧ n ≤ 1048576
    ·have C := Lib.hid fun W => hasN_any 0 1048576 n W
     rw [show inB 0 1048576 n = true from inB_iff.2 hin] at C
     rcases Nat.eq_zero_or_pos k with hz | hz
     ·have hl := hk1 hz
      have HR2 : Hid (r = psGo n (l.drop (k + 1))) := Lib.hid (by rw [HG2.out, decide_eq_true (by omega), decide_eq_true hin.2]; rfl)
      clear hk1 hk2 hcs
      subst hz
      rw [Nat.add_zero] at d0
      go_wp2_with fail
      refine (flows_any _).mono ?_
      rintro e w1 ⟨rfl, b1⟩
      have S := Lib.hid (S.out.trans (b1.mono S.out.size))
      clear b1
      go_wp2_with fail
      refine (C.out _).mono ?_
      rintro e w2 ⟨rfl, b1⟩
      have S := Lib.hid (S.out.trans (b1.mono S.out.size))
      clear b1
      go_wp2_with fail
      go_roundw
      case rel => exact ⟨1, n, by go_num, by omega, fun h => by omega, fun _ => ⟨hin.1, HN.out⟩, HR2.out, S.out⟩
      case measure => show l.length - ((0 : Int) + 1).toNat < l.length - (0 : Int).toNat; omega
     ·obtain ⟨hl0, hl1⟩ := hk2 hz
      have e0 := (S.out.cell (p := ⟨b, o + (k - 1), none⟩) hbB).trans (hcs (k - 1) last hl1)
      have hz0 : (0 : Int) < (k : Int) := by omega
      have E0 := Lib.hid e0
      have HZ := Lib.hid S.out.size
      clear hk1 hk2 hcs e0 hl1
      go_wp2_with fail
      refine (flows_any _).mono ?_
      rintro e w1 ⟨rfl, b1⟩
      have S := Lib.hid (S.out.trans (b1.mono S.out.size))
      have E0 := Lib.hid ((b1.cell (p := ⟨b, o + (k - 1), none⟩) (Nat.lt_of_lt_of_le hbB HZ.out)).trans E0.out)
      have HZ := Lib.hid S.out.size
      clear b1
      go_wp2_with fail
      refine (C.out _).mono ?_
      rintro e w2 ⟨rfl, b1⟩
      have S := Lib.hid (S.out.trans (b1.mono S.out.size))
      have e1 := (b1.cell (p := ⟨b, o + (k - 1), none⟩) (Nat.lt_of_lt_of_le hbB HZ.out)).trans E0.out
      clear b1
      by_cases hup : n ≤ last
      ·have HF : Hid (false = r) := Lib.hid (by rw [HG2.out, decide_eq_false (by omega)]; rfl)
       go_wp2_with fail
       go_ret
       exact ⟨ret_bool HF.out, S.out⟩
      ·have HR2 : Hid (r = psGo n (l.drop (k + 1))) := Lib.hid (by rw [HG2.out, decide_eq_true (by omega), decide_eq_true hin.2]; rfl)
       go_wp2_with fail
       go_roundw
       case rel => exact ⟨k + 1, n, by go_num, by omega, fun h => by omega, fun _ => ⟨hin.1, HN.out⟩, HR2.out, S.out⟩
       case measure => show l.length - ((k : Int) + 1).toNat < l.length - (k : Int).toNat; omega
    ·have C := Lib.hid fun W => hasN_any 0 1048576 n W
     rw [show inB 0 1048576 n = false from by rw [Bool.eq_false_iff]; intro h; exact hin (inB_iff.1 h)] at C
     have HF : Hid (false = r) := Lib.hid (by
      rw [HG2.out]
      by_cases h0 : n ≤ 1048576
      ·have : ¬ last < n := by
        rcases Nat.eq_zero_or_pos k with hz | hz
        ·have := hk1 hz; omega
        ·have := (hk2 hz).1; omega
       rw [decide_eq_false this]; rfl
      ·rw [decide_eq_false h0]; simp)
     clear hk1 hk2 hcs hin
     go_wp2_with fail
     refine (flows_any _).mono ?_
     rintro e w1 ⟨rfl, b1⟩
     have S := Lib.hid (S.out.trans (b1.mono S.out.size))
     clear b1
     go_wp2_with fail
     refine (C.out _).mono ?_
     rintro e w2 ⟨rfl, b1⟩
     have S := Lib.hid (S.out.trans (b1.mono S.out.size))
     clear b1
     go_wp2_with fail
     go_ret
     exact ⟨ret_bool HF.out, S.out⟩
   ·have hk0 : (l.length : Int) ≤ (k : Int) := by omega
    have HT : Hid (true = r) := Lib.hid (by rw [hg, List.drop_eq_nil_of_le (by omega)]; rfl)
    clear hg hk1 hk2
    go_wp2_with fail
    go_ret
    exact ⟨ret_bool HT.out, S.out⟩
end Go.Proofs.Ytkoacclbempmdaa

/- One operation of a region that draws is taken, or passed over. A block that lies as it was made. -/
namespace Go.Proofs.Ytkoacclbempmdaa
open Go.RowKit

section
variable {P : Program} {md : Region.Mode} {ops : Array Oper} {Q : Exit → Act → World → Prop} {S : World → Prop} {i : Nat} {oi : Oper} {v : Value} {d : Option Tmp} {fuel : Nat} {listed : Array Bool} {a : Act} {w : World}
/-- An operation of a region that draws is taken; the slot that it writes is named. -/
theorem takeW (hi : ops[i]? = some oi) (hd : oi.dst = d) (hs : Region.noSelect ops = true) (hf : Region.free md ops listed i = true) (hr : (Region.ready md ops listed).contains i = true)
  (hQ : ∀ c a w, Q (.panic c) (a.put d v) w → Q (.panic c) a w) (hw : Region.wanted oi (yielded ops a.tmps) = true) (hy : ∀ w, S w → (execOp a.eval oi).run P w = .ok (.value v) w) (hS : S w)
  (h : wpAnyH P md ops Q S fuel (listed.setIfInBounds i true) (a.put d v) w) : wpAnyH P md ops Q S (fuel + 1) listed a w := by
 subst hd; exact wpAnyH_take hi hs hf hr hQ (.inl ⟨hw, hy⟩) hS h
/-- An operation of a region that draws is passed over, as its guard says. -/
theorem skipW (hi : ops[i]? = some oi) (hd : oi.dst = d) (hs : Region.noSelect ops = true) (hf : Region.free md ops listed i = true) (hr : (Region.ready md ops listed).contains i = true)
  (hQ : ∀ c a w, Q (.panic c) (a.put d undef) w → Q (.panic c) a w) (hw : Region.wanted oi (yielded ops a.tmps) = false) (hS : S w)
  (h : wpAnyH P md ops Q S fuel (listed.setIfInBounds i true) (a.put d undef) w) : wpAnyH P md ops Q S (fuel + 1) listed a w := by
 subst hd; exact wpAnyH_take hi hs hf hr hQ (.inr ⟨hw, rfl⟩) hS h
/-- takeW, with all that is decided by running. -/
theorem tw (i d : Nat) {v : Value} (hS : S w) (h : wpAnyH P md ops Q S fuel (listed.setIfInBounds i true) (a.put (some d) v) w)
  (hi : ops[i]? = some oi := by rfl) (hd : oi.dst = some d := by rfl) (hs : Region.noSelect ops = true := by kernel_rfl) (hf : Region.free md ops listed i = true := by kernel_rfl) (hr : (Region.ready md ops listed).contains i = true := by kernel_rfl)
  (hQ : ∀ c a w, Q (.panic c) (a.put (some d) v) w → Q (.panic c) a w := by exact fun _ _ _ h => h) (hw : Region.wanted oi (yielded ops a.tmps) = true := by rfl)
  (hy : ∀ w, S w → (execOp a.eval oi).run P w = .ok (.value v) w := by intro w' hSw; go_simp; try with_reducible rfl) : wpAnyH P md ops Q S (fuel + 1) listed a w :=
 takeW hi hd hs hf hr hQ hw hy hS h
/-- tw with facts that hold behind each operation. -/
theorem tk {F : World → Prop} (KK : Hid (∀ w, S w → F w)) (i d : Nat) {v : Value} (hS : S w) (h : wpAnyH P md ops Q S fuel (listed.setIfInBounds i true) (a.put (some d) v) w)
  (hi : ops[i]? = some oi := by rfl) (hd : oi.dst = some d := by rfl) (hs : Region.noSelect ops = true := by kernel_rfl) (hf : Region.free md ops listed i = true := by kernel_rfl) (hr : (Region.ready md ops listed).contains i = true := by kernel_rfl)
  (hQ : ∀ c a w, Q (.panic c) (a.put (some d) v) w → Q (.panic c) a w := by exact fun _ _ _ h => h) (hw : Region.wanted oi (yielded ops a.tmps) = true := by rfl)
  (hy : ∀ w, S w → F w → (execOp a.eval oi).run P w = .ok (.value v) w := by intro w' hSw q; go_simp; try with_reducible rfl) : wpAnyH P md ops Q S (fuel + 1) listed a w :=
 takeW hi hd hs hf hr hQ hw (fun w h => hy w h (KK.out w h)) hS h
/-- skipW, with all that is decided by running. -/
theorem sw (i d : Nat) (hS : S w) (h : wpAnyH P md ops Q S fuel (listed.setIfInBounds i true) (a.put (some d) undef) w)
  (hi : ops[i]? = some oi := by rfl) (hd : oi.dst = some d := by rfl) (hs : Region.noSelect ops = true := by kernel_rfl) (hf : Region.free md ops listed i = true := by kernel_rfl) (hr : (Region.ready md ops listed).contains i = true := by kernel_rfl)
  (hQ : ∀ c a w, Q (.panic c) (a.put (some d) undef) w → Q (.panic c) a w := by exact fun _ _ _ h => h) (hw : Region.wanted oi (yielded ops a.tmps) = false := by rfl) : wpAnyH P md ops Q S (fuel + 1) listed a w :=
 skipW hi hd hs hf hr hQ hw hS h
/-- What a slot that is written, in a row that is given, comes to. -/
theorem aS : (∀ (a : Act) (d : Nat) (v : Value), a.put (some d) v = { a with tmps := a.tmps.setIfInBounds d v }) ∧ (∀ (a : Act) (v : Value), a.put none v = a) ∧ (∀ (α : Type) (l : List α) (i : Nat) (x : α), l.toArray.setIfInBounds i x = (l.set i x).toArray) ∧ (∀ (α : Type) (x y : α) (l : List α), (x :: l).set 0 y = y :: l) ∧ (∀ (α : Type) (x y : α) (l : List α) (n : Nat), (x :: l).set (n + 1) y = x :: l.set n y) :=
 ⟨fun _ _ _ => rfl, fun _ _ => rfl, fun _ _ _ _ => List.setIfInBounds_toArray .., fun _ _ _ _ => rfl, fun _ _ _ _ _ => rfl⟩
end

/-- The function's first block lies as it was made. -/
def Hb (w : World) (o : Obj) (W : World) : Prop := W.heap[w.heap.size]? = some o ∧ Below w.heap.size w W
theorem Hb.below {w W W' : World} {o : Obj} (h : Hb w o W) (hb : Below W.heap.size W W') : Hb w o W' :=
 ⟨(hb.block _ (Array.getElem?_eq_some_iff.1 h.1).1).trans h.1, h.2.trans (hb.mono h.2.size)⟩
theorem Hb.new (w : World) (o : Obj) : Hb w o (w.alloc o) := ⟨World.alloc_heap_new w o, (Below.refl _ _).alloc (Nat.le_refl _) _⟩
theorem Hb.drew {w W : World} {o : Obj} (h : Hb w o W) : Hb w o W.drew := h.below (Below.refl _ _).drew
/-- The function's first two blocks lie as they were made. -/
def Hb2 (w : World) (o o' : Obj) (W : World) : Prop := W.heap[w.heap.size]? = some o ∧ W.heap[w.heap.size + 1]? = some o' ∧ Below w.heap.size w W
theorem Hb2.below {w W W' : World} {o o' : Obj} (h : Hb2 w o o' W) (hb : Below W.heap.size W W') : Hb2 w o o' W' :=
 ⟨(hb.block _ (Array.getElem?_eq_some_iff.1 h.1).1).trans h.1, (hb.block _ (Array.getElem?_eq_some_iff.1 h.2.1).1).trans h.2.1, h.2.2.trans (hb.mono h.2.2.size)⟩
theorem Hb2.new (w : World) (o o' : Obj) : Hb2 w o o' ((w.alloc o).alloc o') := by
 refine ⟨(Below.heap_alloc _ _ _ (by simp)).trans (World.alloc_heap_new w o), ?_, ((Below.refl _ _).alloc (Nat.le_refl _) _).alloc (by simp) _⟩
 have := World.alloc_heap_new (w.alloc o) o'
 rwa [World.size_alloc] at this
theorem Hb2.drew {w W : World} {o o' : Obj} (h : Hb2 w o o' W) : Hb2 w o o' W.drew := h.below (Below.refl _ _).drew
theorem Hb2.bel {w W : World} {o o' : Obj} (h : Hb2 w o o' W) : Below w.heap.size w W := h.2.2
theorem Hb.bel {w W : World} {o : Obj} (h : Hb w o W) : Below w.heap.size w W := h.2
end Go.Proofs.Ytkoacclbempmdaa
