/- How a set that came in is opened: its two slices, their numbers; how the arguments read behind a call that leaves them. -/
import Derived.Test.YtcdodfehnkgjdaaGreatDoorC4
import Derived.ProofKit
import Derived.OpenShut
import Derived.ReadAgain
import Derived.Lib.SmallJoins
namespace Go.Proofs.YtcdodfehnkgjdaaGreatDoor
open Go.ChangeShapes Go.WideShapes Go.ChangeAt Go.RowKit Go.Joins

theorem qcells3 : Tryz.prog.cellsOf 3 = 1 := by kernel_rfl
theorem qcellsT : Tryz.prog.cellsOf 42 = 3 := by kernel_rfl
theorem qcellsS : Tryz.prog.cellsOf 45 = 2 := by kernel_rfl
theorem qcellsM : Tryz.prog.cellsOf 25 = 2 := by kernel_rfl
theorem qkids : Kids Tryz.prog (· < Tryz.prog.types.size) := kids_rows (by kernel_rfl) (by kernel_rfl)
theorem qfull : ∀ t e, t < Tryz.prog.types.size → Tryz.prog.underlying t = some (.slice e) → 0 < Tryz.prog.cellsOf e := slices_full_of Tryz.prog (by kernel_rfl)

theorem spot_none {W : World} {a : Addr} {v : Value} (h : W.cell? a = some v) : a.spot = none := by
  cases hs : a.spot with
  | none => rfl
  | some x =>
    unfold World.cell? at h
    rw [hs] at h
    split at h <;> simp at h
theorem add_plain {a : Addr} (h : a.spot = none) (k : Nat) : a.add k = ⟨a.block, a.off + k, none⟩ := by
  obtain ⟨b, o, s⟩ := a
  simp only at h
  subst h
  unfold Addr.add
  split
  · rename_i hk; subst hk; rfl
  · rfl

section
variable {H : Type} {enc : TypeId × Value → H} {W : World} {base : Nat} {sp : Nat → Bool}
set_option maxRecDepth 100000 in
theorem turn_cells {n : Nat} {b : Addr} {x : DataW H × List MemPlace} (hc : (W.cells? base b 3).bind (DataW.trod enc Tryz.prog W base sp true n 42) = some x) :
    ∃ p f l, W.cell? (b.add 0) = some (.int .i64 p) ∧ W.cell? (b.add 1) = some (.int .i64 f) ∧ W.cell? (b.add 2) = some (.int .i64 l) := by
  rw [Option.bind_eq_some_iff] at hc
  obtain ⟨cs, h1, h2⟩ := hc
  obtain ⟨_, hl, hcell⟩ := World.cells?_some h1
  obtain ⟨xs, m, _, _, _, hxl, hf⟩ := DataW.trod_struct Tryz.underlying42 h2
  match cs, hl with
  | [u0, u1, u2], _ =>
    obtain ⟨x0, e0⟩ : ∃ y, xs[0]? = some y := ⟨_, List.getElem?_eq_getElem (by rw [hxl]; decide)⟩
    obtain ⟨x1, e1⟩ : ∃ y, xs[1]? = some y := ⟨_, List.getElem?_eq_getElem (by rw [hxl]; decide)⟩
    obtain ⟨x2, e2⟩ : ∃ y, xs[2]? = some y := ⟨_, List.getElem?_eq_getElem (by rw [hxl]; decide)⟩
    have r0 := hf 0 _ rfl
    have q0 : DataW.trod enc Tryz.prog W base sp true m 3 (([u0, u1, u2].drop 0).take (Tryz.prog.cellsOf 3)) = xs[0]? := r0
    rw [qcells3, e0] at q0
    have r1 := hf 1 _ rfl
    have q1 : DataW.trod enc Tryz.prog W base sp true m 3 (([u0, u1, u2].drop 1).take (Tryz.prog.cellsOf 3)) = xs[1]? := r1
    rw [qcells3, e1] at q1
    have r2 := hf 2 _ rfl
    have q2 : DataW.trod enc Tryz.prog W base sp true m 3 (([u0, u1, u2].drop 2).take (Tryz.prog.cellsOf 3)) = xs[2]? := r2
    rw [qcells3, e2] at q2
    obtain ⟨p, hp, _⟩ := DataW.trod_int Tryz.underlying3 q0
    obtain ⟨f, hp1, _⟩ := DataW.trod_int Tryz.underlying3 q1
    obtain ⟨l, hp2, _⟩ := DataW.trod_int Tryz.underlying3 q2
    simp at hp hp1 hp2
    subst hp hp1 hp2
    exact ⟨p, f, l, (hcell 0 (by omega)).trans rfl, (hcell 1 (by omega)).trans rfl, (hcell 2 (by omega)).trans rfl⟩
set_option maxRecDepth 100000 in
theorem span_cells {n : Nat} {b : Addr} {x : DataW H × List MemPlace} (hc : (W.cells? base b 2).bind (DataW.trod enc Tryz.prog W base sp true n 45) = some x) :
    ∃ p f, W.cell? (b.add 0) = some (.int .i64 p) ∧ W.cell? (b.add 1) = some (.int .i64 f) := by
  rw [Option.bind_eq_some_iff] at hc
  obtain ⟨cs, h1, h2⟩ := hc
  obtain ⟨_, hl, hcell⟩ := World.cells?_some h1
  obtain ⟨xs, m, _, _, _, hxl, hf⟩ := DataW.trod_struct Tryz.underlying45 h2
  match cs, hl with
  | [u0, u1], _ =>
    obtain ⟨x0, e0⟩ : ∃ y, xs[0]? = some y := ⟨_, List.getElem?_eq_getElem (by rw [hxl]; decide)⟩
    obtain ⟨x1, e1⟩ : ∃ y, xs[1]? = some y := ⟨_, List.getElem?_eq_getElem (by rw [hxl]; decide)⟩
    have r0 := hf 0 _ rfl
    have q0 : DataW.trod enc Tryz.prog W base sp true m 3 (([u0, u1].drop 0).take (Tryz.prog.cellsOf 3)) = xs[0]? := r0
    rw [qcells3, e0] at q0
    have r1 := hf 1 _ rfl
    have q1 : DataW.trod enc Tryz.prog W base sp true m 3 (([u0, u1].drop 1).take (Tryz.prog.cellsOf 3)) = xs[1]? := r1
    rw [qcells3, e1] at q1
    obtain ⟨p, hp, _⟩ := DataW.trod_int Tryz.underlying3 q0
    obtain ⟨f, hp1, _⟩ := DataW.trod_int Tryz.underlying3 q1
    simp at hp hp1
    subst hp hp1
    exact ⟨p, f, (hcell 0 (by omega)).trans rfl, (hcell 1 (by omega)).trans rfl⟩

theorem turns_open {fuel : Nat} {v : Value} {y : DataW H × List MemPlace} (h : DataW.trod enc Tryz.prog W base sp true fuel 22 [v] = some y) :
    ∃ A n c, v = .slice A n c ∧ (n ≤ 1000000000000 → ∃ ts : List T3, RT W.heap.size v ts W) := by
  rcases DataW.trod_slice Tryz.underlying22 h with ⟨e, _⟩ | ⟨a, len, cap, elems, rest, m, _, e, _, _, _, _, hlen, hel, _, _⟩
  · injection e with e _
    exact ⟨none, 0, 0, e, fun _ => ⟨[], none, 0, e, by simp, fun h => by simp at h⟩⟩
  · injection e with e _
    refine ⟨some a, len, cap, e, fun hl => ?_⟩
    have each : ∀ i, ∃ t : T3, i < len → W.cell? ((a.add (i * 3)).add 0) = some (.int .i64 t.1) ∧ W.cell? ((a.add (i * 3)).add 1) = some (.int .i64 t.2.1) ∧ W.cell? ((a.add (i * 3)).add 2) = some (.int .i64 t.2.2) := fun i => by
      by_cases hi : i < len
      · have q := hel i hi
        rw [qcellsT, List.getElem?_eq_getElem (by omega)] at q
        obtain ⟨p, f, l, c0, c1, c2⟩ := turn_cells q
        exact ⟨(p, f, l), fun _ => ⟨c0, c1, c2⟩⟩
      · exact ⟨(0, 0, 0), fun h => absurd h hi⟩
    obtain ⟨g, hg⟩ := Classical.axiomOfChoice each
    refine ⟨(List.range len).map g, some a, cap, by rw [e]; simp, by simpa using hl, fun hp => ?_⟩
    have hp' : 0 < len := by simpa using hp
    have h0 := (hg 0 hp').1
    have hcell0 : W.cell? a = some (.int .i64 (g 0).1) := by simpa [Addr.add] using h0
    have hsp : a.spot = none := spot_none hcell0
    have hadd := add_plain hsp
    obtain ⟨b, o, s⟩ := a
    simp only at hsp
    subst hsp
    refine ⟨b, o, rfl, World.block_lt_of_cell? _ _ hcell0, fun k p f l hk => ?_⟩
    have hk' : k < len ∧ g k = (p, f, l) := by
      rw [List.getElem?_map] at hk
      by_cases hkl : k < len
      · rw [List.getElem?_range hkl] at hk
        simp at hk
        exact ⟨hkl, hk⟩
      · rw [List.getElem?_eq_none (by simp; omega)] at hk
        cases hk
    obtain ⟨c0, c1, c2⟩ := hg k hk'.1
    rw [hk'.2] at c0 c1 c2
    rw [hadd] at c0 c1 c2
    exact ⟨c0, c1, c2⟩
theorem spans_open {fuel : Nat} {v : Value} {y : DataW H × List MemPlace} (h : DataW.trod enc Tryz.prog W base sp true fuel 23 [v] = some y) :
    ∃ A n c, v = .slice A n c ∧ (n ≤ 1000000000000 → ∃ ss : List S2, RS W.heap.size v ss W) := by
  rcases DataW.trod_slice Tryz.underlying23 h with ⟨e, _⟩ | ⟨a, len, cap, elems, rest, m, _, e, _, _, _, _, hlen, hel, _, _⟩
  · injection e with e _
    exact ⟨none, 0, 0, e, fun _ => ⟨[], none, 0, e, by simp, fun h => by simp at h⟩⟩
  · injection e with e _
    refine ⟨some a, len, cap, e, fun hl => ?_⟩
    have each : ∀ i, ∃ t : S2, i < len → W.cell? ((a.add (i * 2)).add 0) = some (.int .i64 t.1) ∧ W.cell? ((a.add (i * 2)).add 1) = some (.int .i64 t.2) := fun i => by
      by_cases hi : i < len
      · have q := hel i hi
        rw [qcellsS, List.getElem?_eq_getElem (by omega)] at q
        obtain ⟨p, f, c0, c1⟩ := span_cells q
        exact ⟨(p, f), fun _ => ⟨c0, c1⟩⟩
      · exact ⟨(0, 0), fun h => absurd h hi⟩
    obtain ⟨g, hg⟩ := Classical.axiomOfChoice each
    refine ⟨(List.range len).map g, some a, cap, by rw [e]; simp, by simpa using hl, fun hp => ?_⟩
    have hp' : 0 < len := by simpa using hp
    have h0 := (hg 0 hp').1
    have hcell0 : W.cell? a = some (.int .i64 (g 0).1) := by simpa [Addr.add] using h0
    have hsp : a.spot = none := spot_none hcell0
    have hadd := add_plain hsp
    obtain ⟨b, o, s⟩ := a
    simp only at hsp
    subst hsp
    refine ⟨b, o, rfl, World.block_lt_of_cell? _ _ hcell0, fun k p f hk => ?_⟩
    have hk' : k < len ∧ g k = (p, f) := by
      rw [List.getElem?_map] at hk
      by_cases hkl : k < len
      · rw [List.getElem?_range hkl] at hk
        simp at hk
        exact ⟨hkl, hk⟩
      · rw [List.getElem?_eq_none (by simp; omega)] at hk
        cases hk
    obtain ⟨c0, c1⟩ := hg k hk'.1
    rw [hk'.2] at c0 c1
    rw [hadd] at c0 c1
    exact ⟨c0, c1⟩
set_option maxRecDepth 100000 in
/-- A set that came in: two slices; where they are no longer than memory can be walked, they read as lists. -/
theorem set_open {b0 : Nat} {v : Value} {d : DataW H} {p : List MemPlace} (hv : Value.okWide Tryz.prog W .any b0 25 v) (h : DataW.Trod enc Tryz.prog W base sp true 25 v d p) :
    ∃ A n c A' n' c', v = .agg #[.slice A n c, .slice A' n' c'] ∧ (n ≤ 1000000000000 → n' ≤ 1000000000000 → ∃ ts ss, RM W.heap.size v ts ss W) := by
  obtain ⟨v0, v1, y0, y1, m, rfl, _, _, h0, h1⟩ := open_agg2 Tryz.underlying25 (by kernel_rfl) qcellsM hv h
  obtain ⟨A, n, c, rfl, k0⟩ := turns_open h0
  obtain ⟨A', n', c', rfl, k1⟩ := spans_open h1
  refine ⟨A, n, c, A', n', c', rfl, fun l0 l1 => ?_⟩
  obtain ⟨ts, r0⟩ := k0 l0
  obtain ⟨ss, r1⟩ := k1 l1
  exact ⟨ts, ss, A, n, c, A', n', c', rfl, r0, r1⟩
end

section
variable {H : Type} {enc : TypeId × Value → H}
theorem trodAll_below {P : Program} {W W' : World} {base : Nat} {sp : Nat → Bool} {held : Bool} (hB : Below W.heap.size W W') : ∀ {ts : List TypeId} {vs : List Value} {ds : List (DataW H)} {ps : List MemPlace},
    DataW.TrodAll enc P W base sp held ts vs ds ps → DataW.TrodAll enc P W' base sp held ts vs ds ps
  | [], [], [], _, h => h
  | _ :: _, _ :: _, _ :: _, _, ⟨p, q, ⟨n, h1⟩, h2, e⟩ => ⟨p, q, ⟨n, DataW.trod_carry n _ _ _ h1 (fun x hx => hB.same (DataW.trod_lt n _ _ _ h1 x hx))⟩, trodAll_below hB h2, e⟩
/-- Behind a call that leaves what was there, the arguments read as they did. -/
theorem args_again {W W' : World} (hB : Below W.heap.size W W') {ts : List TypeId} {vs : List Value} {ds : List (DataW H)} {ps : List MemPlace} (ht : ∀ t ∈ ts, t < Tryz.prog.types.size)
    (h : DataW.TrodAll enc Tryz.prog W 0 (fun _ => true) true ts vs ds ps) : DataW.TrodAll enc Tryz.prog W' 0 (fun b => decide (b < W.heap.size)) true ts vs ds ps :=
  by
  have hl : ∀ p ∈ ps, p.block < W.heap.size := fun p hp => DataW.TrodAll.lt h p hp
  have hs : ∀ p ∈ ps, (fun b => decide (b < W.heap.size)) p.block = true := fun p hp => decide_eq_true (hl p hp)
  exact DataW.TrodAll.respare qkids qfull ht (trodAll_below hB h) hs
end
end Go.Proofs.YtcdodfehnkgjdaaGreatDoor
