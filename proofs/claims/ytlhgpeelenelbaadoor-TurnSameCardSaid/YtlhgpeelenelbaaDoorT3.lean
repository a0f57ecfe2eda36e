/- Two sweeps in memory, side by side: what stays of them while others are moved. -/
import Derived.Test.YtlhgpeelenelbaaDoorTA
import Derived.Test.YtlhgpeelenelbaaDoorD6
namespace Go.Proofs.YtlhgpeelenelbaaDoor
open Go.RowKit

theorem N2d.set {w W : World} {v0 v1 u0 u1 : Value} (h : N2d w v0 v1 u0 u1 W) {b k : Nat} (hb : w.heap.size + 2 ≤ b) (v : Value) : N2d w v0 v1 u0 u1 (W.setCell ⟨b, k, none⟩ v) := by
  obtain ⟨a0, a1, b0, b1, l1, hB⟩ := h.out
  have hg := GrownL.set (bs := [b]) W ⟨b, k, none⟩ v (by simp)
  exact ⟨hg.cell a0 (by simp; omega), hg.cell a1 (by simp; omega), hg.cell b0 (by simp; omega), hg.cell b1 (by simp; omega), Nat.lt_of_lt_of_le l1 hg.size, hB.trans (hg.below (by simp; omega) (by omega))⟩

/-- A sweep whose blocks lie from n0 up to n1. -/
structure SWp (bs : List Nat) (xs : List Lot) (A : Option Addr) (q : Int) (n0 n1 : Nat) (W : World) : Prop where
  la : Lanes bs xs q W
  pt : Ptrs bs A W
  ib : ∀ b ∈ bs, n0 ≤ b ∧ b < n1
  ig : ∀ g, A = some ⟨g, 0, none⟩ → n0 ≤ g ∧ g < n1
  n01 : n0 ≤ n1
  sz : n1 ≤ W.heap.size
section
variable {bs cs : List Nat} {xs : List Lot} {A : Option Addr} {q q' : Int} {n0 n1 : Nat} {W W' : World}
theorem SWp.grown (h : SWp bs xs A q n0 n1 W) (hg : GrownL cs W W') (hc : ∀ b ∈ cs, b < n0 ∨ n1 ≤ b) : SWp bs xs A q n0 n1 W' := by
  refine ⟨⟨h.la.1, h.la.2.1, fun k b x hb hx => ?_⟩, fun hp => ?_, h.ib, h.ig, h.n01, Nat.le_trans h.sz hg.size⟩
  · obtain ⟨lo, hi, hl, hk⟩ := h.la.2.2 k b x hb hx
    refine ⟨lo, hi, hl.same (hg.block b hl.lt fun hm => ?_), hk⟩
    have := h.ib b (List.mem_of_getElem? hb)
    have := hc b hm
    omega
  · obtain ⟨g, e, hn, hcell⟩ := h.pt hp
    refine ⟨g, e, hn, fun k b hb => hg.cell (hcell k b hb) fun hm => ?_⟩
    have := h.ig g e
    have := hc g hm
    omega
theorem SWp.next (h : SWp bs xs A q n0 n1 W) (hl : Lanes bs xs q' W') (hg : GrownL bs W W') : SWp bs xs A q' n0 n1 W' :=
  ⟨hl, h.pt.grown hg, h.ib, h.ig, h.n01, Nat.le_trans h.sz hg.size⟩
theorem SWp.below (h : SWp bs xs A q n0 n1 W) (hb : Below W.heap.size W W') : SWp bs xs A q n0 n1 W' :=
  h.grown (GrownL.of_below (bs := []) hb) fun _ h => by cases h
theorem SWp.alloc (h : SWp bs xs A q n0 n1 W) (o : Obj) : SWp bs xs A q n0 n1 (W.alloc o) := h.below ((Below.refl _ _).alloc (Nat.le_refl _) o)
theorem SWp.drew (h : SWp bs xs A q n0 n1 W) : SWp bs xs A q n0 n1 W.drew := h.below (Below.refl _ _).drew
theorem SWp.set (h : SWp bs xs A q n0 n1 W) {b k : Nat} (hb : b < n0 ∨ n1 ≤ b) (v : Value) : SWp bs xs A q n0 n1 (W.setCell ⟨b, k, none⟩ v) :=
  h.grown (GrownL.set (bs := [b]) W ⟨b, k, none⟩ v (by simp)) fun b' hm => by simp at hm; omega
theorem SWp.fresh {ts : List T3} {ss : List S2} (hf : Fresh W.heap.size bs (lotsOf ts ss) W') (hp : Ptrs bs A W') (hb : Below W.heap.size W W') (hg : ∀ g, A = some ⟨g, 0, none⟩ → W.heap.size ≤ g ∧ g < W'.heap.size) : SWp bs (lotsOf ts ss) A 0 W.heap.size W'.heap.size W' :=
  ⟨hf.lanes, hp, hf.2.2.1, hg, hb.size, Nat.le_refl _⟩
end

/-- A block of one cell. -/
def One (b : Nat) (x : Value) (W : World) : Prop := W.cell? ⟨b, 0, none⟩ = some x ∧ b < W.heap.size
section
variable {b : Nat} {cs : List Nat} {x y : Value} {W W' : World}
theorem One.grown (h : One b x W) (hg : GrownL cs W W') (hn : b ∉ cs) : One b x W' := ⟨hg.cell h.1 hn, Nat.lt_of_lt_of_le h.2 hg.size⟩
theorem One.below (h : One b x W) (hb : Below W.heap.size W W') : One b x W' := h.grown (GrownL.of_below (bs := []) hb) (by simp)
theorem One.new (t : TypeId) : One W.heap.size x (W.alloc (.cells #[x] t)) := ⟨by simp [go_sem], by simp⟩
theorem One.new1 (o : Obj) (t : TypeId) : One (W.heap.size + 1) x ((W.alloc o).alloc (.cells #[x] t)) := ⟨by simp [go_sem], by simp⟩
theorem One.newS (p : Addr) (u : Value) (t : TypeId) : One W.heap.size x ((W.setCell p u).alloc (.cells #[x] t)) := by
  have h : (W.setCell p u).heap.size = W.heap.size := by simp
  have := One.new (W := W.setCell p u) (x := x) t
  rwa [h] at this
theorem One.alloc (h : One b x W) (o : Obj) : One b x (W.alloc o) := h.below ((Below.refl _ _).alloc (Nat.le_refl _) o)
theorem One.drew (h : One b x W) : One b x W.drew := h
theorem One.other (h : One b x W) {g k : Nat} (hg : b ≠ g) (v : Value) : One b x (W.setCell ⟨g, k, none⟩ v) := h.grown (GrownL.set (bs := [g]) W ⟨g, k, none⟩ v (by simp)) (by simp [hg])
theorem One.set (h : One b x W) (y : Value) : One b y (W.setCell ⟨b, 0, none⟩ y) := ⟨World.cell?_setCell_same' _ _ _ (by rw [h.1]; rfl), by simpa using h.2⟩
theorem Two.grown {y : Value} (h : Two b x y W) (hg : GrownL cs W W') (hn : b ∉ cs) : Two b x y W' := ⟨hg.cell h.1 hn, hg.cell h.2.1 hn, Nat.lt_of_lt_of_le h.2.2 hg.size⟩
end

/-- Two sweeps, the variables that hold them, and a limit above which all else lies. -/
structure LSt (w : World) (xs xs' : List Lot) (b8 b9 N : Nat) (bs : List Nat) (A : Option Addr) (c n0 n1 : Nat) (bs' : List Nat) (A' : Option Addr) (c' m0 m1 : Nat) (q q' : Int) (W : World) : Prop where
  s1 : SWp bs xs A q n0 n1 W
  s2 : SWp bs' xs' A' q' m0 m1 W
  o8 : One b8 (.slice A bs.length c) W
  o9 : One b9 (.slice A' bs'.length c') W
  dis : n1 ≤ m0
  d8 : (b8 < n0 ∨ n1 ≤ b8) ∧ (b8 < m0 ∨ m1 ≤ b8)
  d9 : (b9 < n0 ∨ n1 ≤ b9) ∧ (b9 < m0 ∨ m1 ≤ b9)
  lim : m1 ≤ N ∧ b8 < N ∧ b9 < N ∧ N ≤ W.heap.size
  base : w.heap.size ≤ n0
  hB : Below w.heap.size w W
section
variable {w : World} {xs xs' : List Lot} {b8 b9 N : Nat} {bs cs : List Nat} {A : Option Addr} {c n0 n1 : Nat} {bs' : List Nat} {A' : Option Addr} {c' m0 m1 : Nat} {q q' q1 : Int} {W W' : World}
theorem LSt.far (h : LSt w xs xs' b8 b9 N bs A c n0 n1 bs' A' c' m0 m1 q q' W) (hg : GrownL cs W W') (hc : ∀ b ∈ cs, N ≤ b) : LSt w xs xs' b8 b9 N bs A c n0 n1 bs' A' c' m0 m1 q q' W' := by
  obtain ⟨l1, l2, l3, l4⟩ := h.lim
  have x1 := h.dis
  have x2 := h.s2.n01
  have x3 := h.s1.n01
  have x4 := h.base
  have x5 := h.hB.size
  exact ⟨h.s1.grown hg fun b hb => by have := hc b hb; omega, h.s2.grown hg fun b hb => by have := hc b hb; omega, h.o8.grown hg fun hm => by have := hc _ hm; omega, h.o9.grown hg fun hm => by have := hc _ hm; omega, h.dis, h.d8, h.d9, ⟨l1, l2, l3, Nat.le_trans l4 hg.size⟩, h.base, h.hB.trans (hg.below (fun b hb => by have := hc b hb; omega) (by omega))⟩
theorem LSt.next1 (h : LSt w xs xs' b8 b9 N bs A c n0 n1 bs' A' c' m0 m1 q q' W) (hl : Lanes bs xs q1 W') (hg : GrownL bs W W') : LSt w xs xs' b8 b9 N bs A c n0 n1 bs' A' c' m0 m1 q1 q' W' := by
  obtain ⟨l1, l2, l3, l4⟩ := h.lim
  have x1 := h.dis
  have x5 := h.hB.size
  have x4 := h.base
  exact ⟨h.s1.next hl hg, h.s2.grown hg fun b hb => by have := h.s1.ib b hb; omega, h.o8.grown hg fun hm => by have := h.s1.ib _ hm; have := h.d8; omega, h.o9.grown hg fun hm => by have := h.s1.ib _ hm; have := h.d9; omega, h.dis, h.d8, h.d9, ⟨l1, l2, l3, Nat.le_trans l4 hg.size⟩, h.base, h.hB.trans (hg.below (fun b hb => by have := h.s1.ib b hb; omega) (by omega))⟩
theorem LSt.next2 (h : LSt w xs xs' b8 b9 N bs A c n0 n1 bs' A' c' m0 m1 q q' W) (hl : Lanes bs' xs' q1 W') (hg : GrownL bs' W W') : LSt w xs xs' b8 b9 N bs A c n0 n1 bs' A' c' m0 m1 q q1 W' := by
  obtain ⟨l1, l2, l3, l4⟩ := h.lim
  have x1 := h.dis
  have x3 := h.s1.n01
  have x5 := h.hB.size
  have x4 := h.base
  exact ⟨h.s1.grown hg fun b hb => by have := h.s2.ib b hb; omega, h.s2.next hl hg, h.o8.grown hg fun hm => by have := h.s2.ib _ hm; have := h.d8; omega, h.o9.grown hg fun hm => by have := h.s2.ib _ hm; have := h.d9; omega, h.dis, h.d8, h.d9, ⟨l1, l2, l3, Nat.le_trans l4 hg.size⟩, h.base, h.hB.trans (hg.below (fun b hb => by have := h.s2.ib b hb; omega) (by omega))⟩
end
theorem LSt.pack {w : World} {xs xs' : List Lot} {b8 b9 : Nat} {bs : List Nat} {A : Option Addr} {c n0 n1 : Nat} {bs' : List Nat} {A' : Option Addr} {c' m0 m1 : Nat} {W : World}
    (s1 : SWp bs xs A 0 n0 n1 W) (s2 : SWp bs' xs' A' 0 m0 m1 W) (o8 : One b8 (.slice A bs.length c) W) (o9 : One b9 (.slice A' bs'.length c') W) (dis : n1 ≤ m0)
    (d8 : (b8 < n0 ∨ n1 ≤ b8) ∧ (b8 < m0 ∨ m1 ≤ b8)) (d9 : (b9 < n0 ∨ n1 ≤ b9) ∧ (b9 < m0 ∨ m1 ≤ b9)) (base : w.heap.size ≤ n0) (hB : Below w.heap.size w W) :
    ∃ (a8 a9 : Nat) (bs : List Nat) (A : Option Addr) (c n0 n1 : Nat) (bs' : List Nat) (A' : Option Addr) (c' m0 m1 N : Nat), (.pointer (some ⟨b8, 0, none⟩) : Value) = .pointer (some ⟨a8, 0, none⟩) ∧ (.pointer (some ⟨b9, 0, none⟩) : Value) = .pointer (some ⟨a9, 0, none⟩) ∧ LSt w xs xs' a8 a9 N bs A c n0 n1 bs' A' c' m0 m1 0 0 W :=
  ⟨_, _, _, _, _, _, _, _, _, _, _, _, W.heap.size, rfl, rfl, s1, s2, o8, o9, dis, d8, d9, ⟨s2.sz, o8.2, o9.2, Nat.le_refl _⟩, base, hB⟩
/-- The same, with the span that is looked at. -/
def LT (w : World) (xs xs' : List Lot) (b8 b9 N : Nat) (bs : List Nat) (A : Option Addr) (c n0 n1 : Nat) (bs' : List Nat) (A' : Option Addr) (c' m0 m1 : Nat) (q q' : Int) (b10 : Nat) (lo hi : Int) (W : World) : Prop :=
  LSt w xs xs' b8 b9 N bs A c n0 n1 bs' A' c' m0 m1 q q' W ∧ Two b10 (.int .i64 lo) (.int .i64 hi) W ∧ N ≤ b10 ∧ W.frozen? ⟨b10, 0, none⟩ = false
abbrev LX (A : Option Addr) (n c : Nat) (A' : Option Addr) (n' c' : Nat) (b8 b9 b10 : Nat) (lo hi : Int) (W : World) : Prop :=
  W.cell? ⟨b8, 0, none⟩ = some (.slice A n c) ∧ W.cell? ⟨b9, 0, none⟩ = some (.slice A' n' c') ∧ W.cell? ⟨b10, 0, none⟩ = some (.int .i64 lo) ∧ W.cell? ⟨b10, 1, none⟩ = some (.int .i64 hi)
section
variable {w : World} {xs xs' : List Lot} {b8 b9 N : Nat} {bs cs : List Nat} {A : Option Addr} {c n0 n1 : Nat} {bs' : List Nat} {A' : Option Addr} {c' m0 m1 : Nat} {q q' q1 : Int} {b10 : Nat} {lo hi : Int} {W W' : World}
theorem LT.out (h : LT w xs xs' b8 b9 N bs A c n0 n1 bs' A' c' m0 m1 q q' b10 lo hi W) : LX A bs.length c A' bs'.length c' b8 b9 b10 lo hi W :=
  ⟨h.1.o8.1, h.1.o9.1, h.2.1.1, h.2.1.2.1⟩
theorem LT.far (h : LT w xs xs' b8 b9 N bs A c n0 n1 bs' A' c' m0 m1 q q' b10 lo hi W) (hg : GrownL cs W W') (hc : ∀ b ∈ cs, N ≤ b ∧ b ≠ b10) : LT w xs xs' b8 b9 N bs A c n0 n1 bs' A' c' m0 m1 q q' b10 lo hi W' :=
  ⟨h.1.far hg fun b hb => (hc b hb).1, h.2.1.grown hg fun hm => (hc _ hm).2 rfl, h.2.2.1, (World.frozen?_of_block (a := ⟨b10, 0, none⟩) (hg.block b10 h.2.1.2.2 fun hm => (hc _ hm).2 rfl)).trans h.2.2.2⟩
theorem LT.frz (h : LT w xs xs' b8 b9 N bs A c n0 n1 bs' A' c' m0 m1 q q' b10 lo hi W) : W.frozen? ⟨b10, 0, none⟩ = false := h.2.2.2
theorem LT.alloc (h : LT w xs xs' b8 b9 N bs A c n0 n1 bs' A' c' m0 m1 q q' b10 lo hi W) (o : Obj) : LT w xs xs' b8 b9 N bs A c n0 n1 bs' A' c' m0 m1 q q' b10 lo hi (W.alloc o) :=
  h.far (GrownL.of_below (bs := []) ((Below.refl _ _).alloc (Nat.le_refl _) o)) fun _ h => by cases h
theorem LT.drew (h : LT w xs xs' b8 b9 N bs A c n0 n1 bs' A' c' m0 m1 q q' b10 lo hi W) : LT w xs xs' b8 b9 N bs A c n0 n1 bs' A' c' m0 m1 q q' b10 lo hi W.drew :=
  h.far (GrownL.of_below (bs := []) (Below.refl _ _).drew) fun _ h => by cases h
theorem LT.set (h : LT w xs xs' b8 b9 N bs A c n0 n1 bs' A' c' m0 m1 q q' b10 lo hi W) {g k : Nat} (hg : N ≤ g ∧ g ≠ b10) (v : Value) : LT w xs xs' b8 b9 N bs A c n0 n1 bs' A' c' m0 m1 q q' b10 lo hi (W.setCell ⟨g, k, none⟩ v) :=
  h.far (GrownL.set (bs := [g]) W ⟨g, k, none⟩ v (by simp)) fun b hb => by simp at hb; omega
theorem LT.siz (h : LT w xs xs' b8 b9 N bs A c n0 n1 bs' A' c' m0 m1 q q' b10 lo hi W) : b10 < W.heap.size ∧ N ≤ b10 ∧ N ≤ W.heap.size := ⟨h.2.1.2.2, h.2.2.1, h.1.lim.2.2.2⟩
/-- What lies above the limit stays. -/
def FarN (N : Nat) (W W' : World) : Prop := W.heap.size ≤ W'.heap.size ∧ ∀ b, N ≤ b → b < W.heap.size → W'.heap[b]? = W.heap[b]?
theorem FarN.two {x y : Value} {b : Nat} (h : FarN N W W') (hb : N ≤ b) (ht : Two b x y W) : Two b x y W' := by
  have hk : Keeps [b] W W' := ⟨h.1, fun o ho hl => by simp at ho; subst ho; exact h.2 o hb hl⟩
  exact ⟨hk.cell ht.1 (by simp), hk.cell ht.2.1 (by simp), Nat.lt_of_lt_of_le ht.2.2 h.1⟩
theorem FarN.cells (h : FarN N W W') : (∀ b o, N ≤ b → b < W.heap.size → W'.cell? ⟨b, o, none⟩ = W.cell? ⟨b, o, none⟩) ∧ (∀ b o, N ≤ b → b < W.heap.size → W'.frozen? ⟨b, o, none⟩ = W.frozen? ⟨b, o, none⟩) :=
  ⟨fun b o hb hl => World.cell?_of_block (a := ⟨b, o, none⟩) (h.2 b hb hl), fun b o hb hl => World.frozen?_of_block (a := ⟨b, o, none⟩) (h.2 b hb hl)⟩
end

/-- The first number of the span that a variable holds. -/
def loAt (u : Value) (W : World) : Int := match u with
  | .pointer (some a) => intOf ((W.cell? a).getD undef)
  | _ => 0
theorem loAt_of {b : Nat} {n : Int} {W : World} (h : W.cell? ⟨b, 0, none⟩ = some (.int .i64 n)) : loAt (.pointer (some ⟨b, 0, none⟩)) W = n := by
  simp [loAt, h, intOf]

/-- Contract of one step of either sweep. -/
theorem next1_LT {w : World} {xs xs' : List Lot} {b8 b9 N : Nat} {bs : List Nat} {A : Option Addr} {c n0 n1 : Nat} {bs' : List Nat} {A' : Option Addr} {c' m0 m1 : Nat} {q q' : Int} {b10 : Nat} {lo : Int} {W : World}
    (hok : ∀ x ∈ xs, x.ok) (hl : xs.length ≤ 100) (h0 : 0 ≤ lo) (h1 : lo ≤ 1048577) (hq : q ≤ lo) (h : LT w xs xs' b8 b9 N bs A c n0 n1 bs' A' c' m0 m1 q q' b10 lo 1048576 W) :
    Calls Tryd.prog 101 #[.agg #[.slice A bs.length c], sv2 lo 1048576] W fun e w' => ∃ a b q1, RunIs (fun m => ∃ x ∈ xs, x.has m) lo 1048576 a b ∧ q1 ≤ b + 1 ∧ e = .returned (sv2 a b) ∧ LT w xs xs' b8 b9 N bs A c n0 n1 bs' A' c' m0 m1 q1 q' b10 lo 1048576 w' ∧ FarN N W w' := by
  have hlen : bs.length ≤ 100 := by rw [h.1.s1.la.1]; exact hl
  refine (sweepNext_any bs xs A c q lo 1048576 W hok h.1.s1.la h.1.s1.pt hq h0 h1 (by omega) hlen).mono ?_
  rintro e w' ⟨a, b, q1, hr, g1, g2, g3, rfl, hla, hgr⟩
  have hout : ∀ b ∈ bs, b < N := fun b hb => by have := h.1.s1.ib b hb; have := h.1.dis; have := h.1.s2.n01; have := h.1.lim; omega
  exact ⟨a, b, q1, hr, g2, rfl, ⟨h.1.next1 hla hgr, h.2.1.grown hgr fun hm => by have := hout _ hm; have := h.2.2.1; omega, h.2.2.1, (World.frozen?_of_block (a := ⟨b10, 0, none⟩) (hgr.block b10 h.2.1.2.2 fun hm => by have := hout _ hm; have := h.2.2.1; omega)).trans h.2.2.2⟩, hgr.size, fun b hb hl => hgr.block b hl fun hm => by have := hout _ hm; omega⟩
theorem next2_LT {w : World} {xs xs' : List Lot} {b8 b9 N : Nat} {bs : List Nat} {A : Option Addr} {c n0 n1 : Nat} {bs' : List Nat} {A' : Option Addr} {c' m0 m1 : Nat} {q q' : Int} {b10 : Nat} {lo : Int} {W : World}
    (hok : ∀ x ∈ xs', x.ok) (hl : xs'.length ≤ 100) (h0 : 0 ≤ lo) (h1 : lo ≤ 1048577) (hq : q' ≤ lo) (h : LT w xs xs' b8 b9 N bs A c n0 n1 bs' A' c' m0 m1 q q' b10 lo 1048576 W) :
    Calls Tryd.prog 101 #[.agg #[.slice A' bs'.length c'], sv2 lo 1048576] W fun e w' => ∃ a b q1, RunIs (fun m => ∃ x ∈ xs', x.has m) lo 1048576 a b ∧ q1 ≤ b + 1 ∧ e = .returned (sv2 a b) ∧ LT w xs xs' b8 b9 N bs A c n0 n1 bs' A' c' m0 m1 q q1 b10 lo 1048576 w' ∧ FarN N W w' := by
  have hlen : bs'.length ≤ 100 := by rw [h.1.s2.la.1]; exact hl
  refine (sweepNext_any bs' xs' A' c' q' lo 1048576 W hok h.1.s2.la h.1.s2.pt hq h0 h1 (by omega) hlen).mono ?_
  rintro e w' ⟨a, b, q1, hr, g1, g2, g3, rfl, hla, hgr⟩
  have hout : ∀ b ∈ bs', b < N := fun b hb => by have := h.1.s2.ib b hb; have := h.1.lim; omega
  exact ⟨a, b, q1, hr, g2, rfl, ⟨h.1.next2 hla hgr, h.2.1.grown hgr fun hm => by have := hout _ hm; have := h.2.2.1; omega, h.2.2.1, (World.frozen?_of_block (a := ⟨b10, 0, none⟩) (hgr.block b10 h.2.1.2.2 fun hm => by have := hout _ hm; have := h.2.2.1; omega)).trans h.2.2.2⟩, hgr.size, fun b hb hl => hgr.block b hl fun hm => by have := hout _ hm; omega⟩
end Go.Proofs.YtlhgpeelenelbaaDoor
