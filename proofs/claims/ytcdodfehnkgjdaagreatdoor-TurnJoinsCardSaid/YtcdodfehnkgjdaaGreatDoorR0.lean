/- Worlds in which only some blocks may have turned. -/
import Derived.RangeFuncBox
import Derived.Lib.Hide
namespace Go.Proofs.YtcdodfehnkgjdaaGreatDoor
open Go.RowKit

/-- Only the blocks bs may have turned. -/
structure GrownL (bs : List Nat) (w w' : World) : Prop where
  os : w'.os = w.os
  tape : w'.tape = w.tape
  output : w'.output = w.output
  size : w.heap.size ≤ w'.heap.size
  block : ∀ k, k < w.heap.size → k ∉ bs → w'.heap[k]? = w.heap[k]?
section
variable {bs : List Nat} {w w1 w2 : World}
theorem GrownL.refl (bs : List Nat) (w : World) : GrownL bs w w := ⟨rfl, rfl, rfl, Nat.le_refl _, fun _ _ _ => rfl⟩
theorem GrownL.trans (h : GrownL bs w w1) (k : GrownL bs w1 w2) : GrownL bs w w2 :=
  ⟨k.os.trans h.os, k.tape.trans h.tape, k.output.trans h.output, Nat.le_trans h.size k.size, fun i hi hn => (k.block i (Nat.lt_of_lt_of_le hi h.size) hn).trans (h.block i hi hn)⟩
theorem GrownL.of_one {b : Nat} (h : w.grownBy w1 (some b)) (hb : b ∈ bs) : GrownL bs w w1 :=
  ⟨h.os, h.tape, h.output, h.size, fun k hk hn => h.block k hk (fun e => hn (by rw [Option.some.inj e]; exact hb))⟩
theorem GrownL.of_below (h : Below w.heap.size w w1) : GrownL bs w w1 := ⟨h.os, h.tape, h.output, h.size, fun k hk _ => h.block k hk⟩
theorem GrownL.cell (h : GrownL bs w w1) {p : Addr} {v : Value} (hv : w.cell? p = some v) (hn : p.block ∉ bs) : w1.cell? p = some v :=
  (World.cell?_of_block (h.block p.block (World.block_lt_of_cell? w p hv) hn)).trans hv
theorem GrownL.below {B : Nat} (h : GrownL bs w w1) (hB : ∀ b ∈ bs, B ≤ b) (hs : B ≤ w.heap.size) : Below B w w1 :=
  ⟨h.os, h.tape, h.output, h.size, fun k hk => h.block k (by omega) (fun hm => by have := hB k hm; omega)⟩
theorem GrownL.mono {bs' : List Nat} (h : GrownL bs w w1) (hs : ∀ b ∈ bs, b ∈ bs') : GrownL bs' w w1 :=
  ⟨h.os, h.tape, h.output, h.size, fun k hk hn => h.block k hk (fun hm => hn (hs k hm))⟩
theorem GrownL.drew (h : GrownL bs w w1) : GrownL bs w w1.drew := ⟨h.os, h.tape, h.output, h.size, h.block⟩
theorem GrownL.putObj (w : World) (l : Nat) (o : Obj) (hl : l ∈ bs) : GrownL bs w (w.putObj l o) :=
  ⟨rfl, rfl, rfl, by simp, fun k _ hn => World.putObj_heap_other (fun e => hn (e ▸ hl))⟩
theorem GrownL.set (w : World) (a : Addr) (v : Value) (hl : a.block ∈ bs) : GrownL bs w (w.setCell a v) :=
  ⟨rfl, rfl, rfl, by simp [World.setCell], fun k _ hn => Below.heap_setCell w a v k (fun e => hn (e ▸ hl))⟩
end

/-- The blocks O, so far as there are any, lie as they lay. -/
structure Keeps (O : List Nat) (W W' : World) : Prop where
  size : W.heap.size ≤ W'.heap.size
  same : ∀ o ∈ O, o < W.heap.size → W'.heap[o]? = W.heap[o]?
theorem Keeps.refl (O : List Nat) (W : World) : Keeps O W W := ⟨Nat.le_refl _, fun _ _ _ => rfl⟩
theorem Keeps.trans {O : List Nat} {A B C : World} (h : Keeps O A B) (k : Keeps O B C) : Keeps O A C :=
  ⟨Nat.le_trans h.size k.size, fun o ho hl => (k.same o ho (Nat.lt_of_lt_of_le hl h.size)).trans (h.same o ho hl)⟩
theorem Keeps.mono {O O' : List Nat} {W W' : World} (h : Keeps O W W') (hs : ∀ o ∈ O', o ∈ O) : Keeps O' W W' := ⟨h.size, fun o ho hl => h.same o (hs o ho) hl⟩
theorem Keeps.of_grown {O bs : List Nat} {W W' : World} (h : GrownL bs W W') (hn : ∀ o ∈ O, o ∉ bs) : Keeps O W W' := ⟨h.size, fun o ho hl => h.block o hl (hn o ho)⟩
theorem Keeps.of_below {O : List Nat} {W W' : World} (h : Below W.heap.size W W') : Keeps O W W' := ⟨h.size, fun o _ hl => h.block o hl⟩
theorem Keeps.cell {O : List Nat} {W W' : World} (h : Keeps O W W') {p : Addr} {v : Value} (hv : W.cell? p = some v) (hn : p.block ∈ O) : W'.cell? p = some v :=
  (World.cell?_of_block (h.same p.block hn (World.block_lt_of_cell? W p hv))).trans hv
theorem Keeps.obj {O : List Nat} {W W' : World} (h : Keeps O W W') {b : Nat} {o : Obj} (hv : W.heap[b]? = some o) (hn : b ∈ O) : W'.heap[b]? = some o :=
  (h.same b hn (Array.getElem?_eq_some_iff.1 hv).1).trans hv

end Go.Proofs.YtcdodfehnkgjdaaGreatDoor
