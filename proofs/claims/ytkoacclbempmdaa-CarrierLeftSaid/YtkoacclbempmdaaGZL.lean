/- How works, water, cases that came in are opened: they read as lists; how the arguments read behind a call that leaves them. -/
import Derived.Test.YtkoacclbempmdaaOOW
import Derived.ProofKit
import Derived.OpenShut
import Derived.ReadAgain
import Derived.Lib.SmallJoins
import Derived.Test.YtkoacclbempmdaaRows
import Derived.Deep.DeepHandedRow
import Derived.Lib.LaidTab
import Derived.Test.YtkoacclbempmdaaGA
namespace Go.Proofs.Ytkoacclbempmdaa
open Go.ChangeShapes Go.WideShapes Go.ChangeAt Go.RowKit Go.Joins

theorem qcells3 : Try.prog.cellsOf 3 = 1 := by kernel_rfl
theorem qcellsI : Try.prog.cellsOf 25 = 1 := by kernel_rfl
theorem qcellsO : Try.prog.cellsOf 42 = 7 := by kernel_rfl
theorem qcellsC : Try.prog.cellsOf 38 = 1 := by kernel_rfl
theorem qcellsS : Try.prog.cellsOf 40 = 2 := by kernel_rfl
theorem qcellsW : Try.prog.cellsOf 24 = 1 := by kernel_rfl
theorem qcellsLO : Try.prog.cellsOf 36 = 1 := by kernel_rfl
theorem qcellsLC : Try.prog.cellsOf 22 = 1 := by kernel_rfl
theorem qcellsA : Try.prog.cellsOf 27 = 4 := by kernel_rfl
theorem qcellsK : Try.prog.cellsOf 46 = 2 := by kernel_rfl
theorem qkids : Kids Try.prog (· < Try.prog.types.size) := kids_rows (by kernel_rfl) (by kernel_rfl)
theorem qfull : ∀ t e, t < Try.prog.types.size → Try.prog.underlying t = some (.slice e) → 0 < Try.prog.cellsOf e := slices_full_of Try.prog (by kernel_rfl)
theorem spot_none {W : World} {a : Addr} {v : Value} (h : W.cell? a = some v) : a.spot = none := by
 cases hs : a.spot with
 | none => rfl
 | some x =>
  unfold World.cell? at h
  rw [hs] at h
  split at h <;> simp at h
theorem add_plain {a : Addr} (h : a.spot = none) (k : Nat) : a.add k = ⟨a.block, a.off + k, none⟩ := by
 obtain ⟨b, o, s⟩ := a
 simp only at h
 subst h
 unfold Addr.add
 split
 ·rename_i hk; subst hk; rfl
 ·rfl
/-- What was read is not larger than memory can be. -/
def WB {H : Type} (t : TypeId) (d : DataW H) : Prop := (d.weights Try.prog t).all (· ≤ reachBytes) = true
section
variable {H : Type} {t e : TypeId}
theorem WB.row {elems spare : List (DataW H)} (hu : Try.prog.underlying t = some (.slice e)) (h : WB t (.slice elems spare)) : (elems.length + spare.length) * Try.prog.bytesOf e ≤ reachBytes ∧ ∀ d ∈ elems, WB e d := by
 unfold WB at h
 rw [DataW.weights] at h
 simp only [hu, List.all_cons, List.all_append, Bool.and_eq_true, decide_eq_true_eq] at h
 obtain ⟨h1, h2, -⟩ := h
 refine ⟨h1, ?_⟩
 clear h1
 induction elems with
 | nil => intro d hd; cases hd
 | cons x l ih =>
  rw [DataW.weightsAll, List.all_append, Bool.and_eq_true] at h2
  intro d hd
  rcases List.mem_cons.1 hd with rfl | hd
  ·exact h2.1
  ·exact ih h2.2 d hd
theorem WB.each {H : Type} : ∀ (ts : List TypeId) (ds : List (DataW H)), (DataW.weightsEach Try.prog ts ds).all (· ≤ reachBytes) = true → ∀ (j : Nat) t d, ts[j]? = some t → ds[j]? = some d → WB t d
 | [], _, _, j, t, d, h, _ => by simp at h
 | _ :: _, [], _, j, t, d, _, h => by simp at h
 | t0 :: ts, d0 :: ds, h, j, t, d, ht, hd => by
  rw [DataW.weightsEach, List.all_append, Bool.and_eq_true] at h
  cases j with
  | zero => simp at ht hd; subst ht hd; exact h.1
  | succ j => exact WB.each ts ds h.2 j t d (by simpa using ht) (by simpa using hd)
theorem WB.agg {fs : Array Field} {parts : List (DataW H)} (hu : Try.prog.underlying t = some (.struct fs)) (h : WB t (.agg parts)) (j : Nat) (f : Field) (d : DataW H) (hf : fs[j]? = some f) (hd : parts[j]? = some d) : WB f.type d := by
 unfold WB at h
 rw [DataW.weights] at h
 simp only [hu] at h
 exact WB.each _ _ h j f.type d (by simp [hf]) hd
end
theorem fits_bytes {n k b : Nat} (h : (n + k) * b ≤ reachBytes) (hb : 0 < b) : Fits n := by
 have h1 : n * 1 ≤ (n + k) * b := Nat.mul_le_mul (by omega) hb
 have : n ≤ reachBytes := by omega
 exact Nat.le_trans this (by decide)
theorem pb3 : 0 < Try.prog.bytesOf 3 := by decide +kernel
theorem pbO : 0 < Try.prog.bytesOf 42 := by decide +kernel
theorem pbC : 0 < Try.prog.bytesOf 38 := by decide +kernel
theorem pbS : 0 < Try.prog.bytesOf 40 := by decide +kernel

section
variable {H : Type} {enc : TypeId × Value → H} {W : World} {base : Nat} {sp : Nat → Bool}
/-- A slice that came in: its elements, each as its cells. -/
theorem row_open {t e : TypeId} {sz fuel : Nat} {v : Value} {y : DataW H × List MemPlace} {α : Type} [Inhabited α] (hu : Try.prog.underlying t = some (.slice e)) (hsz : Try.prog.cellsOf e = sz) (_hz : 0 < sz) (hb : 0 < Try.prog.bytesOf e) (R : α → Nat → Nat → Prop)
  (hR : ∀ (fuel : Nat) (a : Addr) (x : DataW H × List MemPlace), WB e x.1 → (W.cells? base a sz).bind (DataW.trod enc Try.prog W base sp true fuel e) = some x → ∃ u, (∃ v, W.cell? a = some v) ∧ (a.spot = none → R u a.block a.off))
  (h : DataW.trod enc Try.prog W base sp true fuel t [v] = some y) (hw : WB t y.1) :
  ∃ A c, ∃ l : List α, v = .slice A l.length c ∧ Fits l.length ∧ (0 < l.length → ∃ b o, A = some ⟨b, o, none⟩ ∧ b < W.heap.size ∧ ∀ (k : Nat) x, l[k]? = some x → R x b (o + k * sz)) := by
 rcases DataW.trod_slice hu h with ⟨e1, _⟩ | ⟨a, len, cap, elems, rest, m, _, e1, ey, _, hlc, hcm, hlen, hel, _, _⟩
 ·injection e1 with e1 _
  exact ⟨none, 0, [], e1, by simp, fun h => by simp at h⟩
 ·injection e1 with e1 _
  rw [ey] at hw
  obtain ⟨hw1, hw2⟩ := hw.row hu
  simp only [List.length_map] at hw1
  have each : ∀ i, ∃ u : α, i < len → (∃ v, W.cell? (a.add (i * sz)) = some v) ∧ ((a.add (i * sz)).spot = none → R u (a.add (i * sz)).block (a.add (i * sz)).off) := fun i => by
   by_cases hi : i < len
   ·have q := hel i hi
    have hie : i < elems.length := by omega
    rw [hsz, List.getElem?_eq_getElem hie] at q
    obtain ⟨u, h1, h2⟩ := hR m _ _ (hw2 _ (List.mem_map_of_mem (List.getElem_mem hie))) q
    exact ⟨u, fun _ => ⟨h1, h2⟩⟩
   ·exact ⟨default, fun h => absurd h hi⟩
  obtain ⟨g, hg⟩ := Classical.axiomOfChoice each
  refine ⟨some a, cap, (List.range len).map g, by simpa using e1, by simpa using fits_bytes (hlen ▸ hw1) hb, fun hp => ?_⟩
  have hp' : 0 < len := by simpa using hp
  obtain ⟨v0, hv0⟩ := (hg 0 hp').1
  have hcell0 : W.cell? a = some v0 := by simpa [Addr.add] using hv0
  have hadd := add_plain (spot_none hcell0)
  have hsp := spot_none hcell0
  obtain ⟨b, o, s⟩ := a
  simp only at hsp
  subst hsp
  refine ⟨b, o, rfl, World.block_lt_of_cell? _ _ hcell0, fun k x hk => ?_⟩
  rw [List.getElem?_map] at hk
  by_cases hkl : k < len
  ·rw [List.getElem?_range hkl] at hk
   cases hk
   have := (hg k hkl).2
   rw [hadd] at this
   exact this rfl
  ·rw [List.getElem?_eq_none (by simp; omega)] at hk
   cases hk
theorem cells_of {a : Addr} {n : Nat} {x : DataW H × List MemPlace} {fuel : Nat} {e : TypeId} (h : (W.cells? base a n).bind (DataW.trod enc Try.prog W base sp true fuel e) = some x) : ∃ cs : List Value, cs.length = n ∧ (∀ k, k < n → W.cell? (a.add k) = cs[k]?) ∧ DataW.trod enc Try.prog W base sp true fuel e cs = some x := by
 rw [Option.bind_eq_some_iff] at h
 obtain ⟨cs, h1, h2⟩ := h
 obtain ⟨_, hl, hcell⟩ := World.cells?_some h1
 exact ⟨cs, hl, hcell, h2⟩
/-- Numbers. -/
theorem ints_open {fuel : Nat} {v : Value} {y : DataW H × List MemPlace} (h : DataW.trod enc Try.prog W base sp true fuel 25 [v] = some y) (hw : WB 25 y.1) : ∃ A c, ∃ l : List Int, v = .slice A l.length c ∧ RI W.heap.size v l W := by
 obtain ⟨A, c, l, e, hf, hr⟩ := row_open (α := Int) Try.underlying25 qcells3 (by decide) pb3 (fun n b o => W.cell? ⟨b, o, none⟩ = some (.int .i64 n)) (fun fuel a x _ hx => by
  obtain ⟨cs, hl, hc, h2⟩ := cells_of hx
  obtain ⟨n, rfl, _⟩ := DataW.trod_int Try.underlying3 h2
  have h0 := hc 0 (by decide)
  rw [Addr.add_zero'] at h0
  refine ⟨n, ⟨_, h0.trans rfl⟩, fun hs => ?_⟩
  obtain ⟨b, o, s⟩ := a
  simp only at hs
  subst hs
  exact h0.trans rfl) h hw
 exact ⟨A, c, l, e, A, c, e, hf, fun hp => by
  obtain ⟨b, o, e1, e2, hh⟩ := hr hp
  exact ⟨b, o, e1, e2, fun k n hk => by have := hh k n hk; rwa [Nat.mul_one] at this⟩⟩
set_option maxRecDepth 100000 in
theorem span_of {fuel : Nat} {u0 u1 : Value} {x : DataW H × List MemPlace} (h2 : DataW.trod enc Try.prog W base sp true fuel 40 [u0, u1] = some x) : ∃ p f, u0 = .int .i64 p ∧ u1 = .int .i64 f := by
 obtain ⟨xs, m, _, _, _, hxl, hf⟩ := DataW.trod_struct Try.underlying40 h2
 obtain ⟨x0, e0⟩ : ∃ y, xs[0]? = some y := ⟨_, List.getElem?_eq_getElem (by rw [hxl]; decide)⟩
 obtain ⟨x1, e1⟩ : ∃ y, xs[1]? = some y := ⟨_, List.getElem?_eq_getElem (by rw [hxl]; decide)⟩
 have r0 := hf 0 _ rfl
 have q0 : DataW.trod enc Try.prog W base sp true m 3 (([u0, u1].drop 0).take (Try.prog.cellsOf 3)) = xs[0]? := r0
 rw [qcells3, e0] at q0
 have r1 := hf 1 _ rfl
 have q1 : DataW.trod enc Try.prog W base sp true m 3 (([u0, u1].drop 1).take (Try.prog.cellsOf 3)) = xs[1]? := r1
 rw [qcells3, e1] at q1
 obtain ⟨p, hp, _⟩ := DataW.trod_int Try.underlying3 q0
 obtain ⟨f, hp1, _⟩ := DataW.trod_int Try.underlying3 q1
 simp at hp hp1
 exact ⟨p, f, hp, hp1⟩
instance : Inhabited Ou := ⟨⟨0, 0, none, 0, [], 0, 0, 0, 0⟩⟩
set_option maxRecDepth 100000 in
set_option maxHeartbeats 1000000 in
/-- Outlets. -/
theorem outlets_open {fuel : Nat} {v : Value} {y : DataW H × List MemPlace} (h : DataW.trod enc Try.prog W base sp true fuel 36 [v] = some y) (hw : WB 36 y.1) : ∃ l : List Ou, RO W.heap.size v l W := by
 obtain ⟨A, c, l, e, hf, hr⟩ := row_open (α := Ou) Try.underlying36 qcellsO (by decide) pbO (fun x b o => OuAt W.heap.size b o x W) (fun fuel a x hwx hx => by
  obtain ⟨cs, hl, hc, h2⟩ := cells_of hx
  obtain ⟨xs, m, _, ex, _, hxl, hf⟩ := DataW.trod_struct Try.underlying42 h2
  match cs, hl with
  | [u0, u1, u2, u3, u4, u5, u6], _ =>
   obtain ⟨x0, e0⟩ : ∃ y, xs[0]? = some y := ⟨_, List.getElem?_eq_getElem (by rw [hxl]; decide)⟩
   obtain ⟨x1, e1⟩ : ∃ y, xs[1]? = some y := ⟨_, List.getElem?_eq_getElem (by rw [hxl]; decide)⟩
   obtain ⟨x2, e2⟩ : ∃ y, xs[2]? = some y := ⟨_, List.getElem?_eq_getElem (by rw [hxl]; decide)⟩
   obtain ⟨x3, e3⟩ : ∃ y, xs[3]? = some y := ⟨_, List.getElem?_eq_getElem (by rw [hxl]; decide)⟩
   obtain ⟨x4, e4⟩ : ∃ y, xs[4]? = some y := ⟨_, List.getElem?_eq_getElem (by rw [hxl]; decide)⟩
   have q0 : DataW.trod enc Try.prog W base sp true m 3 (([u0, u1, u2, u3, u4, u5, u6].drop 0).take (Try.prog.cellsOf 3)) = xs[0]? := hf 0 _ rfl
   have q1 : DataW.trod enc Try.prog W base sp true m 3 (([u0, u1, u2, u3, u4, u5, u6].drop 1).take (Try.prog.cellsOf 3)) = xs[1]? := hf 1 _ rfl
   have q2 : DataW.trod enc Try.prog W base sp true m 25 (([u0, u1, u2, u3, u4, u5, u6].drop 2).take (Try.prog.cellsOf 25)) = xs[2]? := hf 2 _ rfl
   have q3 : DataW.trod enc Try.prog W base sp true m 40 (([u0, u1, u2, u3, u4, u5, u6].drop 3).take (Try.prog.cellsOf 40)) = xs[3]? := hf 3 _ rfl
   have q4 : DataW.trod enc Try.prog W base sp true m 40 (([u0, u1, u2, u3, u4, u5, u6].drop 5).take (Try.prog.cellsOf 40)) = xs[4]? := hf 4 _ rfl
   rw [qcells3, e0] at q0
   rw [qcells3, e1] at q1
   rw [qcellsI, e2] at q2
   rw [qcellsS, e3] at q3
   rw [qcellsS, e4] at q4
   obtain ⟨i0, p0, _⟩ := DataW.trod_int Try.underlying3 q0
   obtain ⟨i1, p1, _⟩ := DataW.trod_int Try.underlying3 q1
   simp at p0 p1
   subst p0 p1
   have hw2 : WB 25 x2.1 := by
    rw [ex] at hwx
    exact hwx.agg Try.underlying42 2 _ x2.1 rfl (by rw [List.getElem?_map, e2]; rfl)
   obtain ⟨Ap, cp, ps, ep, hri⟩ := ints_open q2 hw2
   obtain ⟨k0, k1, r3, r4⟩ := span_of q3
   obtain ⟨s0, s1, r5, r6⟩ := span_of q4
   subst r3 r4 r5 r6 ep
   have h0 := hc 0 (by decide)
   rw [Addr.add_zero'] at h0
   refine ⟨⟨i0, i1, Ap, cp, ps, k0, k1, s0, s1⟩, ⟨_, h0.trans rfl⟩, fun hs => ?_⟩
   have had := add_plain hs
   obtain ⟨b, o, s⟩ := a
   simp only at hs
   subst hs
   have hcell : ∀ k u, [Value.int .i64 i0, .int .i64 i1, .slice Ap ps.length cp, .int .i64 k0, .int .i64 k1, .int .i64 s0, .int .i64 s1][k]? = some u → k < 7 → W.cell? ⟨b, o + k, none⟩ = some u := fun k u hu hk => by
    have := hc k hk
    rw [had] at this
    exact this.trans hu
   exact ⟨h0.trans rfl, hcell 1 _ rfl (by decide), hcell 2 _ rfl (by decide), hri, hcell 3 _ rfl (by decide), hcell 4 _ rfl (by decide), hcell 5 _ rfl (by decide), hcell 6 _ rfl (by decide)⟩) h hw
 exact ⟨l, A, c, e, hf, hr⟩
set_option maxRecDepth 100000 in
set_option maxHeartbeats 1000000 in
/-- Carriers. -/
theorem carriers_open {fuel : Nat} {v : Value} {y : DataW H × List MemPlace} (h : DataW.trod enc Try.prog W base sp true fuel 22 [v] = some y) (hw : WB 22 y.1) : ∃ ws : Wk, RK W.heap.size v ws W := by
 obtain ⟨A, c, l, e, hf, hr⟩ := row_open (α := List Ou) Try.underlying22 qcellsC (by decide) pbC (fun x b o => ∃ u, W.cell? ⟨b, o, none⟩ = some u ∧ RO W.heap.size u x W) (fun fuel a x hwx hx => by
  obtain ⟨cs, hl, hc, h2⟩ := cells_of hx
  obtain ⟨xs, m, _, ex, _, hxl, hf⟩ := DataW.trod_struct Try.underlying38 h2
  match cs, hl with
  | [u0], _ =>
   obtain ⟨x0, e0⟩ : ∃ y, xs[0]? = some y := ⟨_, List.getElem?_eq_getElem (by rw [hxl]; decide)⟩
   have q0 : DataW.trod enc Try.prog W base sp true m 36 (([u0].drop 0).take (Try.prog.cellsOf 36)) = xs[0]? := hf 0 _ rfl
   rw [qcellsLO, e0] at q0
   have hw2 : WB 36 x0.1 := by
    rw [ex] at hwx
    exact hwx.agg Try.underlying38 0 _ x0.1 rfl (by rw [List.getElem?_map, e0]; rfl)
   obtain ⟨os, hos⟩ := outlets_open q0 hw2
   have h0 := hc 0 (by decide)
   rw [Addr.add_zero'] at h0
   refine ⟨os, ⟨_, h0.trans rfl⟩, fun hs => ?_⟩
   obtain ⟨b, o, s⟩ := a
   simp only at hs
   subst hs
   exact ⟨u0, h0.trans rfl, hos⟩) h hw
 exact ⟨l, A, c, e, hf, fun hp => by
  obtain ⟨b, o, e1, e2, hh⟩ := hr hp
  exact ⟨b, o, e1, e2, fun k n hk => by have := hh k n hk; rwa [Nat.mul_one] at this⟩⟩
set_option maxRecDepth 100000 in
/-- Works that came in. -/
theorem works_open {b0 : Nat} {v : Value} {d : DataW H} {p : List MemPlace} (hv : Value.okWide Try.prog W .any b0 24 v) (h : DataW.Trod enc Try.prog W base sp true 24 v d p) (hw : WB 24 d) : ∃ (A : Option Addr) (c : Nat) (ws : Wk), v = .agg #[.slice A ws.length c] ∧ RK W.heap.size (.slice A ws.length c) ws W := by
 obtain ⟨cs, rfl, hsz⟩ := okWide_struct Try.underlying24 hv
 rw [qcellsW] at hsz
 obtain ⟨c0, rfl⟩ : ∃ c0, cs = #[c0] := Array.size_eq_one_iff.1 hsz
 obtain ⟨fuel, hf⟩ := h
 obtain ⟨xs, m, _, ex, _, hxl, hf⟩ := DataW.trod_struct Try.underlying24 hf
 obtain ⟨x0, e0⟩ : ∃ y, xs[0]? = some y := ⟨_, List.getElem?_eq_getElem (by rw [hxl]; decide)⟩
 have q0 : DataW.trod enc Try.prog W base sp true m 22 (([c0].drop 0).take (Try.prog.cellsOf 22)) = xs[0]? := hf 0 _ rfl
 rw [qcellsLC, e0] at q0
 simp only [Prod.mk.injEq] at ex
 have hw2 : WB 22 x0.1 := by
  rw [ex.1] at hw
  exact hw.agg Try.underlying24 0 _ x0.1 rfl (by rw [List.getElem?_map, e0]; rfl)
 obtain ⟨ws, hws⟩ := carriers_open q0 hw2
 obtain ⟨A, c, rfl⟩ := hws.slice
 exact ⟨A, c, ws, rfl, hws⟩
theorem RI.rr {B : Nat} {v : Value} {l : List Int} {w : World} (h : RI B v l w) : RR encI B v l w := by
 obtain ⟨A, c, e, hf, hh⟩ := h
 refine ⟨A, c, e, hf, fun hp => ?_⟩
 obtain ⟨b, o, e1, e2, h3⟩ := hh hp
 refine ⟨b, o, e1, e2, fun j u hj => ?_⟩
 obtain ⟨k, i, x, hk, hi, rfl, hu⟩ := EI.inv hj
 obtain rfl : i = 0 := by omega
 cases hu
 rw [Nat.mul_one, Nat.add_zero]
 exact h3 k x hk
set_option maxRecDepth 100000 in
/-- Water that came in. -/
theorem water_open {b0 : Nat} {v : Value} {d : DataW H} {p : List MemPlace} (hv : Value.okWide Try.prog W .any b0 27 v) (h : DataW.Trod enc Try.prog W base sp true 27 v d p) (hw : WB 27 d) : ∃ s : Wa, RWa W.heap.size v s W := by
 obtain ⟨v0, v1, v2, v3, y0, y1, y2, y3, m, rfl, rfl, _, h0, h1, h2, h3⟩ := open_agg4 Try.underlying27 (by kernel_rfl) qcellsA hv h
 have hw' := hw.agg Try.underlying27
 obtain ⟨A0, c0, l0, rfl, r0⟩ := ints_open h0 (hw' 0 _ y0.1 rfl rfl)
 obtain ⟨A1, c1, l1, rfl, r1⟩ := ints_open h1 (hw' 1 _ y1.1 rfl rfl)
 obtain ⟨A2, c2, l2, rfl, r2⟩ := ints_open h2 (hw' 2 _ y2.1 rfl rfl)
 obtain ⟨A3, c3, l3, rfl, r3⟩ := ints_open h3 (hw' 3 _ y3.1 rfl rfl)
 exact ⟨⟨l0, l1, l2, l3⟩, _, _, _, _, rfl, r0.rr, r1.rr, r2.rr, r3.rr⟩
end

section
variable {H : Type} {enc : TypeId × Value → H}
theorem trodAll_below {P : Program} {W W' : World} {base : Nat} {sp : Nat → Bool} {held : Bool} (hB : Below W.heap.size W W') : ∀ {ts : List TypeId} {vs : List Value} {ds : List (DataW H)} {ps : List MemPlace},
  DataW.TrodAll enc P W base sp held ts vs ds ps → DataW.TrodAll enc P W' base sp held ts vs ds ps
 | [], [], [], _, h => h
 | _ :: _, _ :: _, _ :: _, _, ⟨p, q, ⟨n, h1⟩, h2, e⟩ => ⟨p, q, ⟨n, DataW.trod_carry n _ _ _ h1 (fun x hx => hB.same (DataW.trod_lt n _ _ _ h1 x hx))⟩, trodAll_below hB h2, e⟩
/-- Behind a call that leaves what was there, the arguments read as they did. -/
theorem args_again {W W' : World} (hB : Below W.heap.size W W') {ts : List TypeId} {vs : List Value} {ds : List (DataW H)} {ps : List MemPlace} (ht : ∀ t ∈ ts, t < Try.prog.types.size)
  (h : DataW.TrodAll enc Try.prog W 0 (fun _ => true) true ts vs ds ps) : DataW.TrodAll enc Try.prog W' 0 (fun b => decide (b < W.heap.size)) true ts vs ds ps := by
 have hl : ∀ p ∈ ps, p.block < W.heap.size := fun p hp => DataW.TrodAll.lt h p hp
 have hs : ∀ p ∈ ps, (fun b => decide (b < W.heap.size)) p.block = true := fun p hp => decide_eq_true (hl p hp)
 exact DataW.TrodAll.respare qkids qfull ht (trodAll_below hB h) hs
end
end Go.Proofs.Ytkoacclbempmdaa

/- What the rows of layer 2 have in common. -/
namespace Go.Proofs.Ytkoacclbempmdaa
open Go.ChangeShapes Go.WideShapes Go.ChangeAt Go.RowKit Go.Joins
theorem own : ownKnob Try.prog.godebug = none := by kernel_rfl
end Go.Proofs.Ytkoacclbempmdaa

/- Contract of few: what it says of works. -/
namespace Go.Proofs.Ytkoacclbempmdaa
open Go.RowKit

/-- What few says of works. -/
def FewW (ws : Wk) : Prop := (ws.length ≤ 6 ∨ (16 < ws.length ∧ ws.length ≤ 30)) ∧ (total ws ≤ 14 ∨ (60 < total ws ∧ total ws ≤ 90)) ∧ ∀ os ∈ ws, ∀ o ∈ os, o.ps.length ≤ 20
def FewPost (ws : Wk) (w : World) (e : Ending) (w' : World) : Prop := ∃ b, e = .returned (.bool b) ∧ (b = true → FewW ws) ∧ Below w.heap.size w w'
theorem pre_bound {ws : Wk} (h : ∀ os ∈ ws, os.length ≤ 1000000000000000) : ∀ c, pre ws c ≤ c * 1000000000000000
 | 0 => by rw [pre_zero]; omega
 | c + 1 => by
  by_cases hc : c < ws.length
  ·have := pre_bound h c
   have h2 := h _ (List.getElem_mem hc)
   rw [pre_succ (List.getElem?_eq_getElem hc)]
   omega
  ·have := pre_bound h c
   have e : pre ws (c + 1) = pre ws c := by
    unfold pre
    rw [List.take_of_length_le (by omega), List.take_of_length_le (by omega)]
   omega
theorem wrap_add (a b : Int) : IntKind.i64.wrap (IntKind.i64.wrap a + b) = IntKind.i64.wrap (a + b) := by
 rw [IntKind.wrap_i64, IntKind.wrap_i64, IntKind.wrap_i64]
 omega

set_option maxHeartbeats 8000000 in
set_option maxRecDepth 100000 in
theorem few_any (A : Option Addr) (n c : Nat) (ws : Wk) (w : World) (h : RK w.heap.size (.slice A n c) ws w) :
  Calls Try.prog 18 #[.agg #[.slice A n c]] w (FewPost ws w) := by
 obtain ⟨A0, c0, e0, n1, hx⟩ := h
 obtain ⟨rfl, rfl, rfl⟩ : A = A0 ∧ n = ws.length ∧ c = c0 := by simpa using e0
 have HX := Lib.hid hx
 have HL : Hid (∀ os ∈ ws, os.length ≤ 1000000000000000) := Lib.hid fun os hos => by
  obtain ⟨k, hk⟩ := List.mem_iff_getElem?.1 hos
  obtain ⟨_, _, _, _, h2⟩ := hx (by have := (List.getElem?_eq_some_iff.1 hk).1; omega)
  obtain ⟨_, _, hr⟩ := h2 k os hk
  exact hr.fits
 have S0 := Lib.hid (Wd.new (w := w) (v := .slice A ws.length c) 24)
 clear hx e0
 go_enter Try.func18, Try.ntmps18
 go_wp2_with fail
 go_loopw [3, 4] (fun s u wr => ∃ (k : Nat) (N : Int), u = .int .i64 k ∧ k ≤ ws.length ∧ s = .int .i64 N ∧ N = IntKind.i64.wrap (pre ws k) ∧ (∀ os ∈ ws.take k, ∀ o ∈ os, o.ps.length ≤ 20) ∧ Wd w (.slice A ws.length c) wr) (fun _ u _ => ws.length - (intOf u).toNat)
 case atStart => exact ⟨0, 0, rfl, by omega, rfl, by rw [pre_zero]; rfl, by simp, S0.out⟩
 case round =>
  obtain ⟨k, N, rfl, hk, rfl, hN, hs, hS⟩ := hrel
  have S := Lib.hid hS
  have HS := Lib.hid hs
  have HN := Lib.hid hN
  have t0 := hS.c
  clear hS hs hN S0
  by_cases hkl : k < ws.length
  ·obtain ⟨b, o, rfl, hbB, hcs⟩ := HX.out (by omega)
   have hk0 : (k : Int) < (ws.length : Int) := by omega
   obtain ⟨os, hos⟩ : ∃ os, ws[k]? = some os := ⟨_, List.getElem?_eq_getElem hkl⟩
   obtain ⟨u, hu, hr⟩ := hcs k os hos
   obtain ⟨A1, c1, rfl, n2, hy⟩ := hr
   have d0 := (S.out.bel.cell (p := ⟨b, o + k, none⟩) hbB).trans hu
   have HY := Lib.hid hy
   have HU := Lib.hid hu
   have HO := Lib.hid hos
   clear hu hy hos hcs
   obtain ⟨N2, hN2⟩ : ∃ N2, IntKind.i64.wrap (N + os.length) = N2 := ⟨_, rfl⟩
   have hN3 : Hid (N2 = IntKind.i64.wrap (pre ws (k + 1))) := Lib.hid (by rw [← hN2, HN.out, wrap_add, pre_succ HO.out]; simp)
   go_wp2_with fail
   go_loopw [5] (fun u wi => ∃ j : Nat, u = .int .i64 j ∧ j ≤ os.length ∧ (∀ o ∈ os.take j, o.ps.length ≤ 20) ∧ Wd w (.slice (some ⟨b, o, none⟩) ws.length c) wi) (fun u _ => os.length - (intOf u).toNat)
   case atStart => exact ⟨0, rfl, by omega, by simp, S.out⟩
   case round =>
    obtain ⟨j, rfl, hj, hs, hS⟩ := hrel
    have S := Lib.hid hS
    have HT := Lib.hid hs
    have t0 := hS.c
    have d0 := (S.out.bel.cell (p := ⟨b, o + k, none⟩) hbB).trans HU.out
    clear hS hs
    by_cases hjl : j < os.length
    ·obtain ⟨b1, o1, rfl, hb1, hc1⟩ := HY.out (by omega)
     have hj0 : (j : Int) < (os.length : Int) := by omega
     obtain ⟨x, hx⟩ : ∃ x, os[j]? = some x := ⟨_, List.getElem?_eq_getElem hjl⟩
     have hat := hc1 j x hx
     obtain ⟨Ap, cp, ep⟩ := hat.ps.slice
     have d1 := (S.out.bel.cell (p := ⟨b1, o1 + j * 7 + 2, none⟩) hb1).trans hat.pv
     rw [ep] at d1
     have HXX := Lib.hid hx
     clear hat ep hc1 hx
     by_cases hlong : (20 : Int) < (x.ps.length : Int)
     ·go_wp2_with fail
      go_ret
      exact ⟨false, rfl, (fun h => by cases h), S.out.bel⟩
     ·go_wp2_with fail
      go_roundw
      case rel => exact ⟨j + 1, by go_num, by omega, fun q hq => by
       rw [List.take_succ_eq_append_getElem hjl, List.mem_append, List.mem_singleton] at hq
       rcases hq with hq | rfl
       ·exact HT.out q hq
       ·rw [(List.getElem?_eq_some_iff.1 HXX.out).2]; omega, S.out⟩
      case measure => show os.length - ((j : Int) + 1).toNat < os.length - (j : Int).toNat; omega
    ·have hj0 : (os.length : Int) ≤ (j : Int) := by omega
     go_wp2_with fail
     go_roundw
     case rel => exact ⟨k + 1, N2, by go_num, by omega, rfl, hN3.out, fun q hq => by
      rw [List.take_succ_eq_append_getElem hkl, List.mem_append, List.mem_singleton] at hq
      rcases hq with hq | rfl
      ·exact HS.out q hq
      ·rw [(List.getElem?_eq_some_iff.1 HO.out).2]
       intro y hy
       exact HT.out y (by rw [List.take_of_length_le (by omega)]; exact hy), S.out⟩
     case measure => show ws.length - ((k : Int) + 1).toNat < ws.length - (k : Int).toNat; omega
  ·have hk0 : (ws.length : Int) ≤ (k : Int) := by omega
   obtain rfl : k = ws.length := by omega
   have HF : Hid (ws.length ≤ 30 → N = total ws) := Lib.hid fun h30 => by
    have := pre_bound HL.out ws.length
    rw [HN.out]
    exact IntWalk.i64_in _ (by show _ ∧ (pre ws ws.length : Int) ≤ _; omega)
   have HA : Hid (∀ os ∈ ws, ∀ o ∈ os, o.ps.length ≤ 20) := Lib.hid fun os hos => HS.out os (by rw [List.take_of_length_le (Nat.le_refl _)]; exact hos)
   have h1 : (ws.length : Int) ≤ 6 ∨ (6 < (ws.length : Int) ∧ (ws.length : Int) ≤ 16) ∨ (6 < (ws.length : Int) ∧ 16 < (ws.length : Int) ∧ (ws.length : Int) ≤ 30) ∨ (6 < (ws.length : Int) ∧ 16 < (ws.length : Int) ∧ 30 < (ws.length : Int)) := by omega
   have h2 : N ≤ 14 ∨ (14 < N ∧ N ≤ 60) ∨ (14 < N ∧ 60 < N ∧ N ≤ 90) ∨ (14 < N ∧ 60 < N ∧ 90 < N) := by omega
   clear HN HS HL
   rcases h1 with a1 | ⟨a1, a2⟩ | ⟨a1, a2, a3⟩ | ⟨a1, a2, a3⟩ <;> rcases h2 with b1 | ⟨b1, b2⟩ | ⟨b1, b2, b3⟩ | ⟨b1, b2, b3⟩
   all_goals
    go_wp2_with fail
    go_ret
    refine ⟨_, rfl, fun hb => ?_, S.out.bel⟩
    first
     | (exfalso; revert hb; simp; done)
     | (exfalso; revert hb; simp; omega)
     | (have := HF.out (by omega)
        exact ⟨by omega, by omega, HA.out⟩)
end Go.Proofs.Ytkoacclbempmdaa
