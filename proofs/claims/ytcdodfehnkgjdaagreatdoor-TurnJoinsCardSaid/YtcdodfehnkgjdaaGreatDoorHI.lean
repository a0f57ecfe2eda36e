/- Contracts of reader.turn and reader.span. -/
import Derived.Test.YtcdodfehnkgjdaaGreatDoorHH
import Derived.Test.YtcdodfehnkgjdaaGreatDoorGG
import Derived.Deep.RegionLawGrows
import Derived.Maps.AppendAt
import Derived.Laws.EntriesVeiled
namespace Go.Proofs.YtcdodfehnkgjdaaGreatDoor
open Go.RowKit

/-- The part of a turn is read. -/
def turnF (s : List UInt8) (st : Nat × Bool) : (Int × Int × Int) × Nat × Bool :=
  let r1 := numF s 1 40320 (wordF s wEvery st)
  let r2 := numF s 0 (r1.1 - 1) (wordF s wFrom r1.2)
  let r3 := numF s 1 r1.1 (wordF s wFor r2.2)
  ((r1.1, r2.1, r3.1), wordF s wEnd r3.2)
/-- The part of a span is read. -/
def spanF (s : List UInt8) (st : Nat × Bool) : (Int × Int) × Nat × Bool :=
  let r1 := numF s 0 1048576 (wordF s wBetween st)
  let r2 := numF s r1.1 1048576 (wordF s wAnd r1.2)
  ((r1.1, r2.1), wordF s wEnd r2.2)

theorem set3_0 {W : World} {b T : Nat} {x y z v : Value} (h : W.heap[b]? = some (.cells #[x, y, z] T (0, 0))) : (W.setCell ⟨b, 0, none⟩ v).heap[b]? = some (.cells #[v, y, z] T (0, 0)) := by simp [World.setCell, Array.getElem?_modify, h]
theorem set3_1 {W : World} {b T : Nat} {x y z v : Value} (h : W.heap[b]? = some (.cells #[x, y, z] T (0, 0))) : (W.setCell ⟨b, 1, none⟩ v).heap[b]? = some (.cells #[x, v, z] T (0, 0)) := by simp [World.setCell, Array.getElem?_modify, h]
theorem set3_2 {W : World} {b T : Nat} {x y z v : Value} (h : W.heap[b]? = some (.cells #[x, y, z] T (0, 0))) : (W.setCell ⟨b, 2, none⟩ v).heap[b]? = some (.cells #[x, y, v] T (0, 0)) := by simp [World.setCell, Array.getElem?_modify, h]
theorem set2_0 {W : World} {b T : Nat} {x y v : Value} (h : W.heap[b]? = some (.cells #[x, y] T (0, 0))) : (W.setCell ⟨b, 0, none⟩ v).heap[b]? = some (.cells #[v, y] T (0, 0)) := by simp [World.setCell, Array.getElem?_modify, h]
theorem set2_1 {W : World} {b T : Nat} {x y v : Value} (h : W.heap[b]? = some (.cells #[x, y] T (0, 0))) : (W.setCell ⟨b, 1, none⟩ v).heap[b]? = some (.cells #[x, v] T (0, 0)) := by simp [World.setCell, Array.getElem?_modify, h]
theorem heap_cell {W : World} {b T : Nat} {cs : Array Value} {fz : Nat × Nat} (h : W.heap[b]? = some (.cells cs T fz)) (i : Nat) : W.cell? ⟨b, i, none⟩ = cs[i]? := by simp [World.cell?, h]
theorem heap_frozen {W : World} {b T : Nat} {cs : Array Value} (h : W.heap[b]? = some (.cells cs T (0, 0))) (i : Nat) : W.frozen? ⟨b, i, none⟩ = false := by simp [World.frozen?, h]

def PartPost (A T R : Nat) (s : ByteArray) (v : Value) (st : Nat × Bool) (w : World) (e : Ending) (w' : World) : Prop :=
  e = .returned v ∧ RdAt A T R s st w' ∧ GrownL [A, R] w w'

theorem GrownL.drop {bs bs' : List Nat} {w w' : World} (h : GrownL bs w w') (hb : ∀ b ∈ bs, b ∈ bs' ∨ w.heap.size ≤ b) : GrownL bs' w w' :=
  ⟨h.os, h.tape, h.output, h.size, fun k hk hn => h.block k hk (fun hm => by rcases hb k hm with q | q; exact hn q; omega)⟩
/-- A reader, the cells cs in block b, and the cells zs in block b0, which are the call's own. -/
structure TS (A T R : Nat) (s : ByteArray) (w : World) (ty : TypeId) (st : Nat × Bool) (cs zs : Array Value) (W : World) : Prop where
  rd : RdAt A T R s st W
  t : W.heap[w.heap.size + 1]? = some (.cells cs ty (0, 0))
  r : W.heap[w.heap.size]? = some (.cells zs ty (0, 0))
  g : GrownL [A, R, w.heap.size, w.heap.size + 1] w W
  l1 : A < w.heap.size
  l2 : T < w.heap.size
  l3 : R < w.heap.size
theorem TS.call {A T R : Nat} {s : ByteArray} {w : World} {ty : TypeId} {st st' : Nat × Bool} {cs zs : Array Value} {W W' : World} (h : TS A T R s w ty st cs zs W) (hr : RdAt A T R s st' W') (hg : GrownL [A, R] W W') : TS A T R s w ty st' cs zs W' :=
  ⟨hr, (hg.block _ (Array.getElem?_eq_some_iff.1 h.t).1 (by have := h.l1; have := h.l3; simp; omega)).trans h.t, (hg.block _ (Array.getElem?_eq_some_iff.1 h.r).1 (by have := h.l1; have := h.l3; simp; omega)).trans h.r, h.g.trans (hg.mono (by intro b hb; simp at hb ⊢; omega)), h.l1, h.l2, h.l3⟩
theorem TS.put {A T R : Nat} {s : ByteArray} {w : World} {ty : TypeId} {st : Nat × Bool} {cs cs' zs : Array Value} {W : World} (h : TS A T R s w ty st cs zs W) (i : Nat) (v : Value) (hc : (W.setCell ⟨w.heap.size + 1, i, none⟩ v).heap[w.heap.size + 1]? = some (.cells cs' ty (0, 0))) : TS A T R s w ty st cs' zs (W.setCell ⟨w.heap.size + 1, i, none⟩ v) := by
  have hg : GrownL [w.heap.size + 1] W (W.setCell ⟨w.heap.size + 1, i, none⟩ v) := GrownL.set _ _ _ (by simp)
  have := h.l1; have := h.l2; have := h.l3
  exact ⟨h.rd.grown hg (by simp; omega) (by simp; omega) (by simp; omega), hc, (hg.block _ (Array.getElem?_eq_some_iff.1 h.r).1 (by simp)).trans h.r, h.g.trans (hg.mono (by intro b hb; simp at hb ⊢; omega)), h.l1, h.l2, h.l3⟩

set_option maxHeartbeats 4000000 in
set_option maxRecDepth 1000000 in
theorem readTurn_any (A T R : Nat) (s : ByteArray) (st : Nat × Bool) (w : World) (h : RdAt A T R s st w) (hat : st.1 ≤ s.size) (hsx : s.size ≤ 1000000) :
    Calls Tryz.prog 62 #[.pointer (some ⟨R, 0, none⟩)] w (PartPost A T R s (tv (turnF s.data.toList st).1.1 (turnF s.data.toList st).1.2.1 (turnF s.data.toList st).1.2.2) (turnF s.data.toList st).2 w) := by
  obtain ⟨l1, l2, l3⟩ := h.lt
  have hs : s.data.toList.length = s.size := rfl
  obtain ⟨s1, hs1⟩ : ∃ q, wordF s.data.toList wEvery st = q := ⟨_, rfl⟩
  obtain ⟨⟨p, s2⟩, hs2⟩ : ∃ q, numF s.data.toList 1 40320 s1 = q := ⟨_, rfl⟩
  obtain ⟨s3, hs3⟩ : ∃ q, wordF s.data.toList wFrom s2 = q := ⟨_, rfl⟩
  obtain ⟨⟨f, s4⟩, hs4⟩ : ∃ q, numF s.data.toList 0 (p - 1) s3 = q := ⟨_, rfl⟩
  obtain ⟨s5, hs5⟩ : ∃ q, wordF s.data.toList wFor s4 = q := ⟨_, rfl⟩
  obtain ⟨⟨l, s6⟩, hs6⟩ : ∃ q, numF s.data.toList 1 p s5 = q := ⟨_, rfl⟩
  obtain ⟨s7, hs7⟩ : ∃ q, wordF s.data.toList wEnd s6 = q := ⟨_, rfl⟩
  have hres : turnF s.data.toList st = ((p, f, l), s7) := by
    simp only [turnF, hs1, hs2, hs3, hs4, hs5, hs6, hs7]
  rw [hres]
  have a1 : s1.1 ≤ s.size := by rw [← hs1]; exact (wordF_le _ _ _ (by rw [hs]; exact hat)).1
  have a2 := numF_bd s.data.toList 1 40320 40320 s1 (by omega) (by omega) (by rw [hs]; exact a1)
  rw [hs2, hs] at a2
  simp only at a2
  have a3 : s3.1 ≤ s.size := by rw [← hs3]; exact (wordF_le _ _ _ (by rw [hs]; exact a2.2.2.2)).1
  have a4 := numF_bd s.data.toList 0 (p - 1) 40320 s3 (by omega) (by omega) (by rw [hs]; exact a3)
  rw [hs4, hs] at a4
  simp only at a4
  have a5 : s5.1 ≤ s.size := by rw [← hs5]; exact (wordF_le _ _ _ (by rw [hs]; exact a4.2.2.2)).1
  have a6 := numF_bd s.data.toList 1 p 40320 s5 (by omega) (by omega) (by rw [hs]; exact a5)
  rw [hs6, hs] at a6
  simp only at a6
  have C1 : Hid (∀ W, RdAt A T R s st W → Calls Tryz.prog 79 #[.pointer (some ⟨R, 0, none⟩), .string ⟨#[101, 118, 101, 114, 121, 32]⟩] W (WordPost A T R s s1 W)) := Lib.hid fun W h => by
    rw [← hs1]; exact readWord_any A T R s ⟨#[101, 118, 101, 114, 121, 32]⟩ st W h hat hsx (by decide)
  have C2 : Hid (∀ W, RdAt A T R s s1 W → Calls Tryz.prog 80 #[.pointer (some ⟨R, 0, none⟩), .int .i64 1, .int .i64 40320] W (NumPost A T R s (p, s2) W)) := Lib.hid fun W h => by
    rw [← hs2]; exact readNumber_any A T R s 1 40320 s1 W h a1 hsx (by omega) (by omega) (by omega)
  have C3 : Hid (∀ W, RdAt A T R s s2 W → Calls Tryz.prog 79 #[.pointer (some ⟨R, 0, none⟩), .string ⟨#[32, 102, 114, 111, 109, 32]⟩] W (WordPost A T R s s3 W)) := Lib.hid fun W h => by
    rw [← hs3]; exact readWord_any A T R s ⟨#[32, 102, 114, 111, 109, 32]⟩ s2 W h a2.2.2.2 hsx (by decide)
  have C4 : Hid (∀ W, RdAt A T R s s3 W → Calls Tryz.prog 80 #[.pointer (some ⟨R, 0, none⟩), .int .i64 0, .int .i64 (p - 1)] W (NumPost A T R s (f, s4) W)) := Lib.hid fun W h => by
    rw [← hs4]; exact readNumber_any A T R s 0 (p - 1) s3 W h a3 hsx (by omega) (by omega) (by omega)
  have C5 : Hid (∀ W, RdAt A T R s s4 W → Calls Tryz.prog 79 #[.pointer (some ⟨R, 0, none⟩), .string ⟨#[32, 102, 111, 114, 32]⟩] W (WordPost A T R s s5 W)) := Lib.hid fun W h => by
    rw [← hs5]; exact readWord_any A T R s ⟨#[32, 102, 111, 114, 32]⟩ s4 W h a4.2.2.2 hsx (by decide)
  have C6 : Hid (∀ W, RdAt A T R s s5 W → Calls Tryz.prog 80 #[.pointer (some ⟨R, 0, none⟩), .int .i64 1, .int .i64 p] W (NumPost A T R s (l, s6) W)) := Lib.hid fun W h => by
    rw [← hs6]; exact readNumber_any A T R s 1 p s5 W h a5 hsx (by omega) (by omega) (by omega)
  have C7 : Hid (∀ W, RdAt A T R s s6 W → Calls Tryz.prog 79 #[.pointer (some ⟨R, 0, none⟩), .string ⟨#[59, 10]⟩] W (WordPost A T R s s7 W)) := Lib.hid fun W h => by
    rw [← hs7]; exact readWord_any A T R s ⟨#[59, 10]⟩ s6 W h a6.2.2.2 hsx (by decide)
  have hp0 : 0 ≤ p := a2.1
  have hp1 : p ≤ 40320 := a2.2.1
  have h0 := h.grown (bs := []) (GrownL.of_below (below_two w (.cells #[.int .i64 0, .int .i64 0, .int .i64 0] 42) (.cells #[.int .i64 0, .int .i64 0, .int .i64 0] 42))) (by simp) (by simp) (by simp)
  have H0 := Lib.hid h0
  have hT0 : ((w.alloc (.cells #[.int .i64 0, .int .i64 0, .int .i64 0] 42)).alloc (.cells #[.int .i64 0, .int .i64 0, .int .i64 0] 42)).heap[w.heap.size + 1]? = some (.cells #[.int .i64 0, .int .i64 0, .int .i64 0] 42 (0, 0)) := by
    have := World.alloc_heap_new (w.alloc (.cells #[.int .i64 0, .int .i64 0, .int .i64 0] 42)) (.cells #[.int .i64 0, .int .i64 0, .int .i64 0] 42)
    rwa [World.size_alloc] at this
  have hR0 : ((w.alloc (.cells #[.int .i64 0, .int .i64 0, .int .i64 0] 42)).alloc (.cells #[.int .i64 0, .int .i64 0, .int .i64 0] 42)).heap[w.heap.size]? = some (.cells #[.int .i64 0, .int .i64 0, .int .i64 0] 42 (0, 0)) :=
    (Below.heap_alloc _ _ _ (by simp)).trans (World.alloc_heap_new w _)
  have G0 : GrownL [A, R, w.heap.size, w.heap.size + 1] w _ := GrownL.of_below (below_two w (.cells #[.int .i64 0, .int .i64 0, .int .i64 0] 42) (.cells #[.int .i64 0, .int .i64 0, .int .i64 0] 42))
  have S0 := Lib.hid (TS.mk h0 hT0 hR0 G0 l1 l2 l3)
  clear hs1 hs2 hs3 hs4 hs5 hs6 hs7 hres a1 a2 a3 a4 a5 a6 h h0 hT0 hR0 hs G0 H0
  go_enter Tryz.func62, Tryz.ntmps62
  go_wp2_with fail
  refine (C1.out _ S0.out.rd).mono ?_
  rintro e w1 ⟨⟨v1, rfl⟩, hr, hg⟩
  have S1 := Lib.hid (S0.out.call hr hg)
  clear hr hg S0
  go_wp2_with fail
  refine (C2.out _ S1.out.rd).mono ?_
  rintro e w2 ⟨rfl, hr, hg⟩
  have S2 := Lib.hid (S1.out.call hr hg)
  have c0 := heap_cell S2.out.t 0
  have f0 := heap_frozen S2.out.t 0
  simp at c0
  have S2' := Lib.hid (S2.out.put 0 (.int .i64 p) (set3_0 S2.out.t))
  clear hr hg S1 S2
  go_wp2_with fail
  refine (C3.out _ S2'.out.rd).mono ?_
  rintro e w3 ⟨⟨v3, rfl⟩, hr, hg⟩
  have S3 := Lib.hid (S2'.out.call hr hg)
  have d0 := heap_cell S3.out.t 0
  simp at d0
  clear hr hg S2' c0 f0
  go_wp2_with fail
  refine (C4.out _ S3.out.rd).mono ?_
  rintro e w4 ⟨rfl, hr, hg⟩
  have S4 := Lib.hid (S3.out.call hr hg)
  have c1 := heap_cell S4.out.t 1
  have f1 := heap_frozen S4.out.t 1
  simp at c1
  have S4' := Lib.hid (S4.out.put 1 (.int .i64 f) (set3_1 S4.out.t))
  clear hr hg S3 S4 d0
  go_wp2_with fail
  refine (C5.out _ S4'.out.rd).mono ?_
  rintro e w5 ⟨⟨v5, rfl⟩, hr, hg⟩
  have S5 := Lib.hid (S4'.out.call hr hg)
  have e0 := heap_cell S5.out.t 0
  simp at e0
  clear hr hg S4' c1 f1
  go_wp2_with fail
  refine (C6.out _ S5.out.rd).mono ?_
  rintro e w6 ⟨rfl, hr, hg⟩
  have S6 := Lib.hid (S5.out.call hr hg)
  have c2 := heap_cell S6.out.t 2
  have f2 := heap_frozen S6.out.t 2
  simp at c2
  have S6' := Lib.hid (S6.out.put 2 (.int .i64 l) (set3_2 S6.out.t))
  clear hr hg S5 S6 e0
  go_wp2_with fail
  refine (C7.out _ S6'.out.rd).mono ?_
  rintro e w7 ⟨⟨v7, rfl⟩, hr, hg⟩
  have S7 := Lib.hid (S6'.out.call hr hg)
  have g0 := heap_cell S7.out.t 0
  have g1 := heap_cell S7.out.t 1
  have g2 := heap_cell S7.out.t 2
  have z0 := heap_cell S7.out.r 0
  have z1 := heap_cell S7.out.r 1
  have z2 := heap_cell S7.out.r 2
  have y0 := heap_frozen S7.out.r 0
  have y1 := heap_frozen S7.out.r 1
  have y2 := heap_frozen S7.out.r 2
  simp at g0 g1 g2 z0 z1 z2
  clear hr hg S6' c2 f2
  go_wp2_with fail
  have q := set3_2 (v := .int .i64 l) (set3_1 (v := .int .i64 f) (set3_0 (v := .int .i64 p) S7.out.r))
  have q0 := heap_cell q 0
  have q1 := heap_cell q 1
  have q2 := heap_cell q 2
  simp only [List.getElem?_toArray, List.getElem?_cons_zero, List.getElem?_cons_succ] at q0 q1 q2
  have gg : GrownL [w.heap.size] w7 (((w7.setCell ⟨w.heap.size, 0, none⟩ (.int .i64 p)).setCell ⟨w.heap.size, 1, none⟩ (.int .i64 f)).setCell ⟨w.heap.size, 2, none⟩ (.int .i64 l)) :=
    ((GrownL.set _ _ _ (by simp)).trans (GrownL.set _ _ _ (by simp))).trans (GrownL.set _ _ _ (by simp))
  refine bodyPost_ret (v := tv p f l) (by simp [results, Tryz.results62, go_sem, q0, q1, q2]) rfl ⟨rfl, S7.out.rd.grown gg (by simp; omega) (by simp; omega) (by simp; omega), ?_⟩
  exact (S7.out.g.trans (gg.mono (by intro b hb; simp at hb ⊢; omega))).drop (by intro b hb; simp at hb ⊢; omega)

set_option maxHeartbeats 4000000 in
set_option maxRecDepth 1000000 in
theorem readSpan_any (A T R : Nat) (s : ByteArray) (st : Nat × Bool) (w : World) (h : RdAt A T R s st w) (hat : st.1 ≤ s.size) (hsx : s.size ≤ 1000000) :
    Calls Tryz.prog 63 #[.pointer (some ⟨R, 0, none⟩)] w (PartPost A T R s (sv2 (spanF s.data.toList st).1.1 (spanF s.data.toList st).1.2) (spanF s.data.toList st).2 w) := by
  obtain ⟨l1, l2, l3⟩ := h.lt
  have hs : s.data.toList.length = s.size := rfl
  obtain ⟨s1, hs1⟩ : ∃ q, wordF s.data.toList wBetween st = q := ⟨_, rfl⟩
  obtain ⟨⟨p, s2⟩, hs2⟩ : ∃ q, numF s.data.toList 0 1048576 s1 = q := ⟨_, rfl⟩
  obtain ⟨s3, hs3⟩ : ∃ q, wordF s.data.toList wAnd s2 = q := ⟨_, rfl⟩
  obtain ⟨⟨f, s4⟩, hs4⟩ : ∃ q, numF s.data.toList p 1048576 s3 = q := ⟨_, rfl⟩
  obtain ⟨s7, hs7⟩ : ∃ q, wordF s.data.toList wEnd s4 = q := ⟨_, rfl⟩
  have hres : spanF s.data.toList st = ((p, f), s7) := by
    simp only [spanF, hs1, hs2, hs3, hs4, hs7]
  rw [hres]
  have a1 : s1.1 ≤ s.size := by rw [← hs1]; exact (wordF_le _ _ _ (by rw [hs]; exact hat)).1
  have a2 := numF_bd s.data.toList 0 1048576 1048576 s1 (by omega) (by omega) (by rw [hs]; exact a1)
  rw [hs2, hs] at a2
  simp only at a2
  have a3 : s3.1 ≤ s.size := by rw [← hs3]; exact (wordF_le _ _ _ (by rw [hs]; exact a2.2.2.2)).1
  have a4 := numF_bd s.data.toList p 1048576 1048576 s3 (by omega) (by omega) (by rw [hs]; exact a3)
  rw [hs4, hs] at a4
  simp only at a4
  have C1 : Hid (∀ W, RdAt A T R s st W → Calls Tryz.prog 79 #[.pointer (some ⟨R, 0, none⟩), .string ⟨#[98, 101, 116, 119, 101, 101, 110, 32]⟩] W (WordPost A T R s s1 W)) := Lib.hid fun W h => by
    rw [← hs1]; exact readWord_any A T R s ⟨#[98, 101, 116, 119, 101, 101, 110, 32]⟩ st W h hat hsx (by decide)
  have C2 : Hid (∀ W, RdAt A T R s s1 W → Calls Tryz.prog 80 #[.pointer (some ⟨R, 0, none⟩), .int .i64 0, .int .i64 1048576] W (NumPost A T R s (p, s2) W)) := Lib.hid fun W h => by
    rw [← hs2]; exact readNumber_any A T R s 0 1048576 s1 W h a1 hsx (by omega) (by omega) (by omega)
  have C3 : Hid (∀ W, RdAt A T R s s2 W → Calls Tryz.prog 79 #[.pointer (some ⟨R, 0, none⟩), .string ⟨#[32, 97, 110, 100, 32]⟩] W (WordPost A T R s s3 W)) := Lib.hid fun W h => by
    rw [← hs3]; exact readWord_any A T R s ⟨#[32, 97, 110, 100, 32]⟩ s2 W h a2.2.2.2 hsx (by decide)
  have C4 : Hid (∀ W, RdAt A T R s s3 W → Calls Tryz.prog 80 #[.pointer (some ⟨R, 0, none⟩), .int .i64 p, .int .i64 1048576] W (NumPost A T R s (f, s4) W)) := Lib.hid fun W h => by
    rw [← hs4]; exact readNumber_any A T R s p 1048576 s3 W h a3 hsx (by omega) (by omega) (by omega)
  have C7 : Hid (∀ W, RdAt A T R s s4 W → Calls Tryz.prog 79 #[.pointer (some ⟨R, 0, none⟩), .string ⟨#[59, 10]⟩] W (WordPost A T R s s7 W)) := Lib.hid fun W h => by
    rw [← hs7]; exact readWord_any A T R s ⟨#[59, 10]⟩ s4 W h a4.2.2.2 hsx (by decide)
  have h0 := h.grown (bs := []) (GrownL.of_below (below_two w (.cells #[.int .i64 0, .int .i64 0] 45) (.cells #[.int .i64 0, .int .i64 0] 45))) (by simp) (by simp) (by simp)
  have hT0 : ((w.alloc (.cells #[.int .i64 0, .int .i64 0] 45)).alloc (.cells #[.int .i64 0, .int .i64 0] 45)).heap[w.heap.size + 1]? = some (.cells #[.int .i64 0, .int .i64 0] 45 (0, 0)) := by
    have := World.alloc_heap_new (w.alloc (.cells #[.int .i64 0, .int .i64 0] 45)) (.cells #[.int .i64 0, .int .i64 0] 45)
    rwa [World.size_alloc] at this
  have hR0 : ((w.alloc (.cells #[.int .i64 0, .int .i64 0] 45)).alloc (.cells #[.int .i64 0, .int .i64 0] 45)).heap[w.heap.size]? = some (.cells #[.int .i64 0, .int .i64 0] 45 (0, 0)) :=
    (Below.heap_alloc _ _ _ (by simp)).trans (World.alloc_heap_new w _)
  have G0 : GrownL [A, R, w.heap.size, w.heap.size + 1] w _ := GrownL.of_below (below_two w (.cells #[.int .i64 0, .int .i64 0] 45) (.cells #[.int .i64 0, .int .i64 0] 45))
  have S0 := Lib.hid (TS.mk h0 hT0 hR0 G0 l1 l2 l3)
  clear hs1 hs2 hs3 hs4 hs7 hres a1 a2 a3 a4 h h0 hT0 hR0 hs G0
  go_enter Tryz.func63, Tryz.ntmps63
  go_wp2_with fail
  refine (C1.out _ S0.out.rd).mono ?_
  rintro e w1 ⟨⟨v1, rfl⟩, hr, hg⟩
  have S1 := Lib.hid (S0.out.call hr hg)
  clear hr hg S0
  go_wp2_with fail
  refine (C2.out _ S1.out.rd).mono ?_
  rintro e w2 ⟨rfl, hr, hg⟩
  have S2 := Lib.hid (S1.out.call hr hg)
  have c0 := heap_cell S2.out.t 0
  have f0 := heap_frozen S2.out.t 0
  simp at c0
  have S2' := Lib.hid (S2.out.put 0 (.int .i64 p) (set2_0 S2.out.t))
  clear hr hg S1 S2
  go_wp2_with fail
  refine (C3.out _ S2'.out.rd).mono ?_
  rintro e w3 ⟨⟨v3, rfl⟩, hr, hg⟩
  have S3 := Lib.hid (S2'.out.call hr hg)
  have d0 := heap_cell S3.out.t 0
  simp at d0
  clear hr hg S2' c0 f0
  go_wp2_with fail
  refine (C4.out _ S3.out.rd).mono ?_
  rintro e w4 ⟨rfl, hr, hg⟩
  have S4 := Lib.hid (S3.out.call hr hg)
  have c1 := heap_cell S4.out.t 1
  have f1 := heap_frozen S4.out.t 1
  simp at c1
  have S4' := Lib.hid (S4.out.put 1 (.int .i64 f) (set2_1 S4.out.t))
  clear hr hg S3 S4 d0
  go_wp2_with fail
  refine (C7.out _ S4'.out.rd).mono ?_
  rintro e w7 ⟨⟨v7, rfl⟩, hr, hg⟩
  have S7 := Lib.hid (S4'.out.call hr hg)
  have g0 := heap_cell S7.out.t 0
  have g1 := heap_cell S7.out.t 1
  have z0 := heap_cell S7.out.r 0
  have z1 := heap_cell S7.out.r 1
  have y0 := heap_frozen S7.out.r 0
  have y1 := heap_frozen S7.out.r 1
  simp at g0 g1 z0 z1
  clear hr hg S4' c1 f1
  go_wp2_with fail
  have q := set2_1 (v := .int .i64 f) (set2_0 (v := .int .i64 p) S7.out.r)
  have q0 := heap_cell q 0
  have q1 := heap_cell q 1
  simp only [List.getElem?_toArray, List.getElem?_cons_zero, List.getElem?_cons_succ] at q0 q1
  have gg : GrownL [w.heap.size] w7 ((w7.setCell ⟨w.heap.size, 0, none⟩ (.int .i64 p)).setCell ⟨w.heap.size, 1, none⟩ (.int .i64 f)) :=
    (GrownL.set _ _ _ (by simp)).trans (GrownL.set _ _ _ (by simp))
  refine bodyPost_ret (v := sv2 p f) (by simp [results, Tryz.results63, go_sem, q0, q1]) rfl ⟨rfl, S7.out.rd.grown gg (by simp; omega) (by simp; omega) (by simp; omega), ?_⟩
  exact (S7.out.g.trans (gg.mono (by intro b hb; simp at hb ⊢; omega))).drop (by intro b hb; simp at hb ⊢; omega)
end Go.Proofs.YtcdodfehnkgjdaaGreatDoor

/- Contract of Parse, where the first part fails. -/
namespace Go.Proofs.YtcdodfehnkgjdaaGreatDoor
open Go.RowKit

theorem infoTurn : (Tryz.prog.info? 42).map (fun i => (i.zero, i.size, i.bytes)) = some (some (.agg #[.int .i64 0, .int .i64 0, .int .i64 0]), 3, 24) := by kernel_rfl
theorem infoSpan' : (Tryz.prog.info? 45).map (fun i => (i.zero, i.size, i.bytes)) = some (some (.agg #[.int .i64 0, .int .i64 0]), 2, 16) := by kernel_rfl
theorem cells3_new (w : World) (x y z : Value) (T : TypeId) : ∀ j u, [x, y, z][j]? = some u → (w.alloc (.cells #[x, y, z] T)).cell? ((⟨w.heap.size, 0, none⟩ : Addr).add j) = some u := by
  intro j u hj
  match j, hj with
  | 0, hj => simp at hj; subst hj; simp [go_sem, Addr.add]
  | 1, hj => simp at hj; subst hj; simp [go_sem, Addr.add]
  | 2, hj => simp at hj; subst hj; simp [go_sem, Addr.add]
  | j + 3, hj => simp at hj
theorem cells2_new (w : World) (x y : Value) (T : TypeId) : ∀ j u, [x, y][j]? = some u → (w.alloc (.cells #[x, y] T)).cell? ((⟨w.heap.size, 0, none⟩ : Addr).add j) = some u := by
  intro j u hj
  match j, hj with
  | 0, hj => simp at hj; subst hj; simp [go_sem, Addr.add]
  | 1, hj => simp at hj; subst hj; simp [go_sem, Addr.add]
  | j + 2, hj => simp at hj
theorem one3 (x y z : Int) : ∀ u ∈ [Value.int .i64 x, .int .i64 y, .int .i64 z], u.oneCell' = true := by
  intro u hu; simp at hu; rcases hu with rfl | rfl | rfl <;> rfl
theorem one2 (x y : Int) : ∀ u ∈ [Value.int .i64 x, .int .i64 y], u.oneCell' = true := by
  intro u hu; simp at hu; rcases hu with rfl | rfl <;> rfl
theorem grown_below {w w' : World} (h : w.grownBy w' none) : Below w.heap.size w w' := ⟨h.os, h.tape, h.output, h.size, fun k hk => h.block k hk (by simp)⟩
def ParseFail (a : Nat) (w : World) (e : Ending) (w' : World) : Prop :=
  e = .returned (.tuple #[.agg #[.slice none 0 0, .slice none 0 0], .int .i64 7, .int .i64 a]) ∧ Below w.heap.size w w'

set_option maxHeartbeats 4000000 in
set_option maxRecDepth 1000000 in
theorem parse_turn_fails (s : ByteArray) (a : Nat) (w : World) (h1 : 1 ≤ s.size) (h2 : s.size ≤ 3000) (hb : (s[0]'h1).toNat = 101) (hf : (turnF s.data.toList (0, false)).2 = (a, true)) :
    Calls Tryz.prog 24 #[.string s] w (ParseFail a w) := by
  obtain ⟨i0, hi, hz0, hz1, hz2⟩ := info_parts infoTurn
  have hle : ¬ (3000 < (s.size : Int)) := by omega
  have h1' : (0 : Int) < (s.size : Int) := by omega
  have hb' : (((s[0]'h1).toNat : Int) == 101) = true := by simp; omega
  go_enter Tryz.func24, Tryz.ntmps24
  go_wp2_with fail
  obtain ⟨W0, hW0⟩ : ∃ W0, ((((w.alloc (.cells #[.string s] 9)).alloc (.cells #[.slice none 0 0, .slice none 0 0] 25)).alloc (.cells #[.int .i64 0] 3)).alloc (.cells #[.func (.func 61) #[] #[.pointer (some ⟨w.heap.size + 1 + 1, 0, none⟩), .pointer (some ⟨w.heap.size, 0, none⟩)], .bool false] 110)).alloc (.cells #[.slice none 0 0, .slice none 0 0] 25) = W0 := ⟨_, rfl⟩
  have hz : W0.heap.size = w.heap.size + 5 := by rw [← hW0]; simp
  have hbw : Below w.heap.size w W0 := by
    rw [← hW0]
    exact (((((Below.refl w.heap.size w).alloc (Nat.le_refl _) _).alloc (by simp) _).alloc (by simp; omega) _).alloc (by simp; omega) _).alloc (by simp; omega) _
  have x0 : W0.heap[w.heap.size]? = some (.cells #[.string s] 9 (0, 0)) := by
    rw [← hW0]
    refine (Below.heap_alloc _ _ _ (by simp; omega)).trans ((Below.heap_alloc _ _ _ (by simp; omega)).trans ((Below.heap_alloc _ _ _ (by simp; omega)).trans ((Below.heap_alloc _ _ _ (by simp)).trans (World.alloc_heap_new w _))))
  have x1 : W0.heap[w.heap.size + 1]? = some (.cells #[.slice none 0 0, .slice none 0 0] 25 (0, 0)) := by
    rw [← hW0]
    refine (Below.heap_alloc _ _ _ (by simp <;> omega)).trans ((Below.heap_alloc _ _ _ (by simp <;> omega)).trans ((Below.heap_alloc _ _ _ (by simp)).trans ?_))
    have := World.alloc_heap_new (w.alloc (.cells #[.string s] 9)) (.cells #[.slice none 0 0, .slice none 0 0] 25)
    rwa [World.size_alloc] at this
  have x2 : W0.heap[w.heap.size + 1 + 1]? = some (.cells #[.int .i64 0] 3 (0, 0)) := by
    rw [← hW0]
    refine (Below.heap_alloc _ _ _ (by simp)).trans ((Below.heap_alloc _ _ _ (by simp)).trans ?_)
    have := World.alloc_heap_new ((w.alloc (.cells #[.string s] 9)).alloc (.cells #[.slice none 0 0, .slice none 0 0] 25)) (.cells #[.int .i64 0] 3)
    rwa [World.size_alloc, World.size_alloc] at this
  have x3 : W0.heap[w.heap.size + 1 + 1 + 1]? = some (.cells #[.func (.func 61) #[] #[.pointer (some ⟨w.heap.size + 1 + 1, 0, none⟩), .pointer (some ⟨w.heap.size, 0, none⟩)], .bool false] 110 (0, 0)) := by
    rw [← hW0]
    refine (Below.heap_alloc _ _ _ (by simp)).trans ?_
    have := World.alloc_heap_new (((w.alloc (.cells #[.string s] 9)).alloc (.cells #[.slice none 0 0, .slice none 0 0] 25)).alloc (.cells #[.int .i64 0] 3)) (.cells #[.func (.func 61) #[] #[.pointer (some ⟨w.heap.size + 1 + 1, 0, none⟩), .pointer (some ⟨w.heap.size, 0, none⟩)], .bool false] 110)
    rwa [World.size_alloc, World.size_alloc, World.size_alloc] at this
  have x4 : W0.heap[w.heap.size + 1 + 1 + 1 + 1]? = some (.cells #[.slice none 0 0, .slice none 0 0] 25 (0, 0)) := by
    rw [← hW0]
    have := World.alloc_heap_new ((((w.alloc (.cells #[.string s] 9)).alloc (.cells #[.slice none 0 0, .slice none 0 0] 25)).alloc (.cells #[.int .i64 0] 3)).alloc (.cells #[.func (.func 61) #[] #[.pointer (some ⟨w.heap.size + 1 + 1, 0, none⟩), .pointer (some ⟨w.heap.size, 0, none⟩)], .bool false] 110)) (.cells #[.slice none 0 0, .slice none 0 0] 25)
    rwa [World.size_alloc, World.size_alloc, World.size_alloc, World.size_alloc] at this
  have hrd : RdAt (w.heap.size + 1 + 1) w.heap.size (w.heap.size + 1 + 1 + 1) s (0, false) W0 := ⟨x2, x0, x3⟩
  have TN := Lib.hid (fun W (h : RdAt (w.heap.size + 1 + 1) w.heap.size (w.heap.size + 1 + 1 + 1) s (0, false) W) => readTurn_any (w.heap.size + 1 + 1) w.heap.size (w.heap.size + 1 + 1 + 1) s (0, false) W h (by simp) (by omega))
  obtain ⟨⟨⟨tp, tf, tl⟩, st⟩, hr⟩ : ∃ q, turnF s.data.toList (0, false) = q := ⟨_, rfl⟩
  rw [hr] at hf TN
  simp only at hf
  subst hf
  simp only at TN
  rw [hW0]
  have X := Lib.hid (And.intro x1 (And.intro x4 (And.intro hbw hrd)))
  have c0 := heap_cell x0 0
  have c2 := heap_cell x2 0
  have c40 := heap_cell x4 0
  have c41 := heap_cell x4 1
  have f40 := heap_frozen x4 0
  simp only [List.getElem?_toArray, List.getElem?_cons_zero, List.getElem?_cons_succ] at c0 c2 c40 c41
  clear hW0 x0 x1 x2 x3 x4 hr hbw hrd
  refine wp_loop_rounds 1 ?_
  rw [rounds_succ]
  go_wp2_with fail
  go_quiet ((fail))
  all_goals go_wp2_with fail
  obtain ⟨W1, hW1⟩ : ∃ W1, W0.drewN nq = W1 := ⟨_, rfl⟩
  rw [hW1]
  have X1 : Hid (W1.heap[w.heap.size + 1]? = some (.cells #[.slice none 0 0, .slice none 0 0] 25 (0, 0)) ∧ W1.heap[w.heap.size + 1 + 1 + 1 + 1]? = some (.cells #[.slice none 0 0, .slice none 0 0] 25 (0, 0)) ∧ Below w.heap.size w W1 ∧ RdAt (w.heap.size + 1 + 1) w.heap.size (w.heap.size + 1 + 1 + 1) s (0, false) W1 ∧ w.heap.size + 5 ≤ W1.heap.size) := Lib.hid (by
    rw [← hW1]
    obtain ⟨q1, q2, q3, q4⟩ := X.out
    exact ⟨q1, q2, ⟨q3.os, q3.tape, q3.output, q3.size, q3.block⟩, q4, by show _ ≤ W0.heap.size; omega⟩)
  clear c0 c2 c40 c41 f40 X hW1
  have c40 := heap_cell X1.out.2.1 0
  have f40 := heap_frozen X1.out.2.1 0
  simp only [List.getElem?_toArray, List.getElem?_cons_zero] at c40
  have HN : Hid (w.heap.size + 1 + 1 + 1 + 1 ∉ [w.heap.size + 1 + 1, w.heap.size + 1 + 1 + 1] ∧ w.heap.size + 1 ∉ [w.heap.size + 1 + 1, w.heap.size + 1 + 1 + 1]) := Lib.hid (by simp <;> omega)
  go_region_law (first
    | (refine step_append_grows rfl (.tmp 31) (.tmp 33) 22 rfl 42 i0 (.agg #[.int .i64 0, .int .i64 0, .int .i64 0]) 3 24 Tryz.underlying22 hi hz0 hz1 hz2 rfl (by decide) none 0 0 [] (by simp [Act.eval]) (fun _ => ⟨rfl, rfl⟩) rfl (fun b e => by cases e) ⟨w4.heap.size, 0, none⟩ 1 1 [.int .i64 tp, .int .i64 tf, .int .i64 tl] (by simp [Act.eval]) rfl (cells3_new _ _ _ _ _) (one3 _ _ _) (by decide) (by decide) (by decide) ?_; intro v' w5 hown hgrow; obtain ⟨g', cap', rfl⟩ := ownsRow_succ hown; have hb5 := ((Below.refl w4.heap.size w4).alloc (Nat.le_refl _) (.cells #[.int .i64 tp, .int .i64 tf, .int .i64 tl] 42)).trans ((grown_below hgrow).mono (by simp)); have h51 := (hb5.block _ (Array.getElem?_eq_some_iff.1 H4.out.2.2.1).1).trans H4.out.2.2.1; have d50 := heap_cell h51 0; have g50 := heap_frozen h51 0; simp only [List.getElem?_toArray, List.getElem?_cons_zero] at d50; have H5 := Lib.hid (And.intro hb5 h51); clear hown hgrow hb5 h51)
    | (go_simp; go_at_call 62; refine (TN.out W1.drew X1.out.2.2.2.1).mono ?_; rintro e w4 ⟨rfl, hr4, hg4⟩; have h41 := (hg4.block _ (Array.getElem?_eq_some_iff.1 X1.out.2.1).1 HN.out.1).trans X1.out.2.1; have h42 := (hg4.block _ (Array.getElem?_eq_some_iff.1 X1.out.1).1 HN.out.2).trans X1.out.1; have d40 := heap_cell h41 0; have g40 := heap_frozen h41 0; simp only [List.getElem?_toArray, List.getElem?_cons_zero] at d40; have l40 := (Array.getElem?_eq_some_iff.1 h41).1; have d40' : ∀ o, (w4.alloc o).cell? ⟨w.heap.size + 1 + 1 + 1 + 1, 0, none⟩ = some (.slice none 0 0) := fun o => (World.cell?_alloc_lt _ _ _ l40).trans d40; have H4 := Lib.hid (And.intro hr4 (And.intro hg4 (And.intro h41 h42))); clear hr4 hg4 h41 h42))
  all_goals
    have hrd5 := (H4.out.1.grown (bs := []) (GrownL.of_below H5.out.1) (by simp) (by simp) (by simp))
    have gS : GrownL [w.heap.size + 1 + 1 + 1 + 1] w5 (w5.setCell ⟨w.heap.size + 1 + 1 + 1 + 1, 0, none⟩ (.slice (some ⟨g', 0, none⟩) (0 + 1) cap')) := GrownL.set _ _ _ (by simp)
    have hrd6 := hrd5.grown gS (by simp <;> omega) (by simp <;> omega) (by simp <;> omega)
    have h62 := (gS.block _ (Array.getElem?_eq_some_iff.1 ((H5.out.1.block _ (Array.getElem?_eq_some_iff.1 H4.out.2.2.2).1).trans H4.out.2.2.2)).1 (by simp)).trans ((H5.out.1.block _ (Array.getElem?_eq_some_iff.1 H4.out.2.2.2).1).trans H4.out.2.2.2)
    have kr := hrd6.r1
    have ka := hrd6.1.cell
    have k0 := heap_cell h62 0
    have k1 := heap_cell h62 1
    have kf0 := heap_frozen h62 0
    have kf1 := heap_frozen h62 1
    simp only [List.getElem?_toArray, List.getElem?_cons_zero, List.getElem?_cons_succ] at k0 k1
    have H6 := Lib.hid (And.intro hrd6 (And.intro h62 gS))
    have hsz4 := H4.out.2.1.size
    have hsz5 := H5.out.1.size
    clear hrd5 gS hrd6 h62
    go_wp2_with fail
    go_region
  all_goals go_wp2_with fail
  all_goals
    have hB5 := H5.out.1
    have h62 : (w5.setCell ⟨w.heap.size + 1 + 1 + 1 + 1, 0, none⟩ (.slice (some ⟨g', 0, none⟩) 1 cap')).heap[w.heap.size + 1]? = some (.cells #[.slice none 0 0, .slice none 0 0] 25 (0, 0)) := H6.out.2.1
    have hB6 : Below w.heap.size w5 (w5.setCell ⟨w.heap.size + 1 + 1 + 1 + 1, 0, none⟩ (.slice (some ⟨g', 0, none⟩) 1 cap')) := (Below.refl _ _).setCell (p := ⟨w.heap.size + 1 + 1 + 1 + 1, 0, none⟩) (by show w.heap.size ≤ w.heap.size + 4; omega) _
    clear k0 k1 kf0 kf1 kr ka
    obtain ⟨W6, hW6⟩ : ∃ W6, w5.setCell ⟨w.heap.size + 1 + 1 + 1 + 1, 0, none⟩ (.slice (some ⟨g', 0, none⟩) 1 cap') = W6 := ⟨_, rfl⟩
    rw [hW6] at h62 hB6 ⊢
    have q := set2_0 (v := .slice none 0 0) h62
    have q2 := set2_1 (v := .slice none 0 0) q
    have p0 := heap_cell q 0
    have q0 := heap_cell q2 0
    have q1 := heap_cell q2 1
    simp only [List.getElem?_toArray, List.getElem?_cons_zero, List.getElem?_cons_succ] at p0 q0 q1
    refine bodyPost_ret (v := .tuple #[.agg #[.slice none 0 0, .slice none 0 0], .int .i64 7, .int .i64 a]) (by simp [results, Tryz.results24, go_sem, q0, q1]) rfl ⟨rfl, ?_⟩
    have hB1 : Below w.heap.size w W1 := X1.out.2.2.1
    have hB4 : Below w.heap.size W1 w4 := by
      have hg := H4.out.2.1
      exact ⟨hg.os, hg.tape, hg.output, hg.size, fun k hk => hg.block k (by have := X1.out.2.2.2.2; show k < W1.heap.size; omega) (by simp; omega)⟩
    have hsz4' : w.heap.size ≤ w4.heap.size := by have := X1.out.2.2.2.2; have h4 : W1.heap.size ≤ w4.heap.size := hsz4; omega
    exact (((((hB1.trans hB4).trans (hB5.mono hsz4')).trans hB6).setCell (p := ⟨w.heap.size + 1, 0, none⟩) (by show w.heap.size ≤ w.heap.size + 1; omega) _).setCell (p := ⟨w.heap.size + 1, 1, none⟩) (by show w.heap.size ≤ w.heap.size + 1; omega) _).drew
end Go.Proofs.YtcdodfehnkgjdaaGreatDoor

/- Contract of Parse, where the second way's first part fails. -/
namespace Go.Proofs.YtcdodfehnkgjdaaGreatDoor
open Go.RowKit

set_option maxHeartbeats 4000000 in
set_option maxRecDepth 1000000 in
theorem parse_span_fails (s : ByteArray) (a : Nat) (w : World) (h1 : 1 ≤ s.size) (h2 : s.size ≤ 3000) (hb : (s[0]'h1).toNat ≠ 101) (hf : (spanF s.data.toList (0, false)).2 = (a, true)) :
    Calls Tryz.prog 24 #[.string s] w (ParseFail a w) := by
  obtain ⟨i0, hi, hz0, hz1, hz2⟩ := info_parts infoSpan'
  have hle : ¬ (3000 < (s.size : Int)) := by omega
  have h1' : (0 : Int) < (s.size : Int) := by omega
  have hb' : (((s[0]'h1).toNat : Int) == 101) = false := by simp; omega
  have hb2 : (((s[0]'h1).toNat : Int) == (((⟨#[101, 118, 101, 114, 121, 32]⟩ : ByteArray)[0]'(by decide)).toNat : Int)) = false := hb'
  go_enter Tryz.func24, Tryz.ntmps24
  go_wp2_with fail
  obtain ⟨W0, hW0⟩ : ∃ W0, ((((w.alloc (.cells #[.string s] 9)).alloc (.cells #[.slice none 0 0, .slice none 0 0] 25)).alloc (.cells #[.int .i64 0] 3)).alloc (.cells #[.func (.func 61) #[] #[.pointer (some ⟨w.heap.size + 1 + 1, 0, none⟩), .pointer (some ⟨w.heap.size, 0, none⟩)], .bool false] 110)).alloc (.cells #[.slice none 0 0, .slice none 0 0] 25) = W0 := ⟨_, rfl⟩
  have hz : W0.heap.size = w.heap.size + 5 := by rw [← hW0]; simp
  have hbw : Below w.heap.size w W0 := by
    rw [← hW0]
    exact (((((Below.refl w.heap.size w).alloc (Nat.le_refl _) _).alloc (by simp) _).alloc (by simp; omega) _).alloc (by simp; omega) _).alloc (by simp; omega) _
  have x0 : W0.heap[w.heap.size]? = some (.cells #[.string s] 9 (0, 0)) := by
    rw [← hW0]
    refine (Below.heap_alloc _ _ _ (by simp; omega)).trans ((Below.heap_alloc _ _ _ (by simp; omega)).trans ((Below.heap_alloc _ _ _ (by simp; omega)).trans ((Below.heap_alloc _ _ _ (by simp)).trans (World.alloc_heap_new w _))))
  have x1 : W0.heap[w.heap.size + 1]? = some (.cells #[.slice none 0 0, .slice none 0 0] 25 (0, 0)) := by
    rw [← hW0]
    refine (Below.heap_alloc _ _ _ (by simp <;> omega)).trans ((Below.heap_alloc _ _ _ (by simp <;> omega)).trans ((Below.heap_alloc _ _ _ (by simp)).trans ?_))
    have := World.alloc_heap_new (w.alloc (.cells #[.string s] 9)) (.cells #[.slice none 0 0, .slice none 0 0] 25)
    rwa [World.size_alloc] at this
  have x2 : W0.heap[w.heap.size + 1 + 1]? = some (.cells #[.int .i64 0] 3 (0, 0)) := by
    rw [← hW0]
    refine (Below.heap_alloc _ _ _ (by simp)).trans ((Below.heap_alloc _ _ _ (by simp)).trans ?_)
    have := World.alloc_heap_new ((w.alloc (.cells #[.string s] 9)).alloc (.cells #[.slice none 0 0, .slice none 0 0] 25)) (.cells #[.int .i64 0] 3)
    rwa [World.size_alloc, World.size_alloc] at this
  have x3 : W0.heap[w.heap.size + 1 + 1 + 1]? = some (.cells #[.func (.func 61) #[] #[.pointer (some ⟨w.heap.size + 1 + 1, 0, none⟩), .pointer (some ⟨w.heap.size, 0, none⟩)], .bool false] 110 (0, 0)) := by
    rw [← hW0]
    refine (Below.heap_alloc _ _ _ (by simp)).trans ?_
    have := World.alloc_heap_new (((w.alloc (.cells #[.string s] 9)).alloc (.cells #[.slice none 0 0, .slice none 0 0] 25)).alloc (.cells #[.int .i64 0] 3)) (.cells #[.func (.func 61) #[] #[.pointer (some ⟨w.heap.size + 1 + 1, 0, none⟩), .pointer (some ⟨w.heap.size, 0, none⟩)], .bool false] 110)
    rwa [World.size_alloc, World.size_alloc, World.size_alloc] at this
  have x4 : W0.heap[w.heap.size + 1 + 1 + 1 + 1]? = some (.cells #[.slice none 0 0, .slice none 0 0] 25 (0, 0)) := by
    rw [← hW0]
    have := World.alloc_heap_new ((((w.alloc (.cells #[.string s] 9)).alloc (.cells #[.slice none 0 0, .slice none 0 0] 25)).alloc (.cells #[.int .i64 0] 3)).alloc (.cells #[.func (.func 61) #[] #[.pointer (some ⟨w.heap.size + 1 + 1, 0, none⟩), .pointer (some ⟨w.heap.size, 0, none⟩)], .bool false] 110)) (.cells #[.slice none 0 0, .slice none 0 0] 25)
    rwa [World.size_alloc, World.size_alloc, World.size_alloc, World.size_alloc] at this
  have hrd : RdAt (w.heap.size + 1 + 1) w.heap.size (w.heap.size + 1 + 1 + 1) s (0, false) W0 := ⟨x2, x0, x3⟩
  have TN := Lib.hid (fun W (h : RdAt (w.heap.size + 1 + 1) w.heap.size (w.heap.size + 1 + 1 + 1) s (0, false) W) => readSpan_any (w.heap.size + 1 + 1) w.heap.size (w.heap.size + 1 + 1 + 1) s (0, false) W h (by simp) (by omega))
  obtain ⟨⟨⟨tp, tf⟩, st⟩, hr⟩ : ∃ q, spanF s.data.toList (0, false) = q := ⟨_, rfl⟩
  rw [hr] at hf TN
  simp only at hf
  subst hf
  simp only at TN
  rw [hW0]
  have X := Lib.hid (And.intro x1 (And.intro x4 (And.intro hbw hrd)))
  have c0 := heap_cell x0 0
  have c2 := heap_cell x2 0
  have c40 := heap_cell x4 0
  have c41 := heap_cell x4 1
  have f40 := heap_frozen x4 0
  simp only [List.getElem?_toArray, List.getElem?_cons_zero, List.getElem?_cons_succ] at c0 c2 c40 c41
  clear hW0 x0 x1 x2 x3 x4 hr hbw hrd
  refine wp_loop_rounds 1 ?_
  rw [rounds_succ]
  go_wp2_with fail
  go_quiet ((fail))
  all_goals go_wp2_with fail
  obtain ⟨W1, hW1⟩ : ∃ W1, W0.drewN nq = W1 := ⟨_, rfl⟩
  rw [hW1]
  have X1 : Hid (W1.heap[w.heap.size + 1]? = some (.cells #[.slice none 0 0, .slice none 0 0] 25 (0, 0)) ∧ W1.heap[w.heap.size + 1 + 1 + 1 + 1]? = some (.cells #[.slice none 0 0, .slice none 0 0] 25 (0, 0)) ∧ Below w.heap.size w W1 ∧ RdAt (w.heap.size + 1 + 1) w.heap.size (w.heap.size + 1 + 1 + 1) s (0, false) W1 ∧ w.heap.size + 5 ≤ W1.heap.size) := Lib.hid (by
    rw [← hW1]
    obtain ⟨q1, q2, q3, q4⟩ := X.out
    exact ⟨q1, q2, ⟨q3.os, q3.tape, q3.output, q3.size, q3.block⟩, q4, by show _ ≤ W0.heap.size; omega⟩)
  clear c0 c2 c40 c41 f40 X hW1
  have c40 := heap_cell X1.out.2.1 1
  have f40 := heap_frozen X1.out.2.1 1
  simp only [List.getElem?_toArray, List.getElem?_cons_zero, List.getElem?_cons_succ] at c40
  have HN : Hid (w.heap.size + 1 + 1 + 1 + 1 ∉ [w.heap.size + 1 + 1, w.heap.size + 1 + 1 + 1] ∧ w.heap.size + 1 ∉ [w.heap.size + 1 + 1, w.heap.size + 1 + 1 + 1]) := Lib.hid (by simp <;> omega)
  go_region_law (first
    | (refine step_append_grows rfl (.tmp 37) (.tmp 39) 23 rfl 45 i0 (.agg #[.int .i64 0, .int .i64 0]) 2 16 Tryz.underlying23 hi hz0 hz1 hz2 rfl (by decide) none 0 0 [] (by simp [Act.eval]) (fun _ => ⟨rfl, rfl⟩) rfl (fun b e => by cases e) ⟨w4.heap.size, 0, none⟩ 1 1 [.int .i64 tp, .int .i64 tf] (by simp [Act.eval]) rfl (cells2_new _ _ _ _) (one2 _ _) (by decide) (by decide) (by decide) ?_; intro v' w5 hown hgrow; obtain ⟨g', cap', rfl⟩ := ownsRow_succ hown; have hb5 := ((Below.refl w4.heap.size w4).alloc (Nat.le_refl _) (.cells #[.int .i64 tp, .int .i64 tf] 45)).trans ((grown_below hgrow).mono (by simp)); have h51 := (hb5.block _ (Array.getElem?_eq_some_iff.1 H4.out.2.2.1).1).trans H4.out.2.2.1; have d50 := heap_cell h51 1; have g50 := heap_frozen h51 1; simp only [List.getElem?_toArray, List.getElem?_cons_zero, List.getElem?_cons_succ] at d50; have H5 := Lib.hid (And.intro hb5 h51); clear hown hgrow hb5 h51)
    | (go_simp; go_at_call 63; refine (TN.out W1.drew X1.out.2.2.2.1).mono ?_; rintro e w4 ⟨rfl, hr4, hg4⟩; have h41 := (hg4.block _ (Array.getElem?_eq_some_iff.1 X1.out.2.1).1 HN.out.1).trans X1.out.2.1; have h42 := (hg4.block _ (Array.getElem?_eq_some_iff.1 X1.out.1).1 HN.out.2).trans X1.out.1; have d40 := heap_cell h41 1; have g40 := heap_frozen h41 1; simp only [List.getElem?_toArray, List.getElem?_cons_zero, List.getElem?_cons_succ] at d40; have l40 := (Array.getElem?_eq_some_iff.1 h41).1; have d40' : ∀ o, (w4.alloc o).cell? ⟨w.heap.size + 1 + 1 + 1 + 1, 1, none⟩ = some (.slice none 0 0) := fun o => (World.cell?_alloc_lt _ _ _ l40).trans d40; have H4 := Lib.hid (And.intro hr4 (And.intro hg4 (And.intro h41 h42))); clear hr4 hg4 h41 h42))
  all_goals
    have hrd5 := (H4.out.1.grown (bs := []) (GrownL.of_below H5.out.1) (by simp) (by simp) (by simp))
    have gS : GrownL [w.heap.size + 1 + 1 + 1 + 1] w5 (w5.setCell ⟨w.heap.size + 1 + 1 + 1 + 1, 1, none⟩ (.slice (some ⟨g', 0, none⟩) (0 + 1) cap')) := GrownL.set _ _ _ (by simp)
    have hrd6 := hrd5.grown gS (by simp <;> omega) (by simp <;> omega) (by simp <;> omega)
    have h62 := (gS.block _ (Array.getElem?_eq_some_iff.1 ((H5.out.1.block _ (Array.getElem?_eq_some_iff.1 H4.out.2.2.2).1).trans H4.out.2.2.2)).1 (by simp)).trans ((H5.out.1.block _ (Array.getElem?_eq_some_iff.1 H4.out.2.2.2).1).trans H4.out.2.2.2)
    have kr := hrd6.r1
    have ka := hrd6.1.cell
    have k0 := heap_cell h62 0
    have k1 := heap_cell h62 1
    have kf0 := heap_frozen h62 0
    have kf1 := heap_frozen h62 1
    simp only [List.getElem?_toArray, List.getElem?_cons_zero, List.getElem?_cons_succ] at k0 k1
    have H6 := Lib.hid (And.intro hrd6 (And.intro h62 gS))
    have hsz4 := H4.out.2.1.size
    have hsz5 := H5.out.1.size
    clear hrd5 gS hrd6 h62
    go_wp2_with fail
    go_region
  all_goals go_wp2_with fail
  all_goals
    have hB5 := H5.out.1
    have h62 : (w5.setCell ⟨w.heap.size + 1 + 1 + 1 + 1, 1, none⟩ (.slice (some ⟨g', 0, none⟩) 1 cap')).heap[w.heap.size + 1]? = some (.cells #[.slice none 0 0, .slice none 0 0] 25 (0, 0)) := H6.out.2.1
    have hB6 : Below w.heap.size w5 (w5.setCell ⟨w.heap.size + 1 + 1 + 1 + 1, 1, none⟩ (.slice (some ⟨g', 0, none⟩) 1 cap')) := (Below.refl _ _).setCell (p := ⟨w.heap.size + 1 + 1 + 1 + 1, 1, none⟩) (by show w.heap.size ≤ w.heap.size + 4; omega) _
    clear k0 k1 kf0 kf1 kr ka
    obtain ⟨W6, hW6⟩ : ∃ W6, w5.setCell ⟨w.heap.size + 1 + 1 + 1 + 1, 1, none⟩ (.slice (some ⟨g', 0, none⟩) 1 cap') = W6 := ⟨_, rfl⟩
    rw [hW6] at h62 hB6 ⊢
    have q := set2_0 (v := .slice none 0 0) h62
    have q2 := set2_1 (v := .slice none 0 0) q
    have p0 := heap_cell q 0
    have q0 := heap_cell q2 0
    have q1 := heap_cell q2 1
    simp only [List.getElem?_toArray, List.getElem?_cons_zero, List.getElem?_cons_succ] at p0 q0 q1
    refine bodyPost_ret (v := .tuple #[.agg #[.slice none 0 0, .slice none 0 0], .int .i64 7, .int .i64 a]) (by simp [results, Tryz.results24, go_sem, q0, q1]) rfl ⟨rfl, ?_⟩
    have hB1 : Below w.heap.size w W1 := X1.out.2.2.1
    have hB4 : Below w.heap.size W1 w4 := by
      have hg := H4.out.2.1
      exact ⟨hg.os, hg.tape, hg.output, hg.size, fun k hk => hg.block k (by have := X1.out.2.2.2.2; show k < W1.heap.size; omega) (by simp; omega)⟩
    have hsz4' : w.heap.size ≤ w4.heap.size := by have := X1.out.2.2.2.2; have h4 : W1.heap.size ≤ w4.heap.size := hsz4; omega
    exact (((((hB1.trans hB4).trans (hB5.mono hsz4')).trans hB6).setCell (p := ⟨w.heap.size + 1, 0, none⟩) (by show w.heap.size ≤ w.heap.size + 1; omega) _).setCell (p := ⟨w.heap.size + 1, 1, none⟩) (by show w.heap.size ≤ w.heap.size + 1; omega) _).drew
end Go.Proofs.YtcdodfehnkgjdaaGreatDoor
