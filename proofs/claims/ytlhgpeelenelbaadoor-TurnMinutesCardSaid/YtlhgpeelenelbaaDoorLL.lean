/- The law TurnMinutes holds for every input: a set, a turn and a minute. No condition beside the statement's own. (Contracts of few and of the law, how a set that came in is opened, the row, its card.) -/
import Derived.Test.YtlhgpeelenelbaaDoorKK
import Derived.Test.YtlhgpeelenelbaaDoorL1
import Derived.Test.YtlhgpeelenelbaaDoorC4
import Derived.ProofKit
import Derived.OpenShut
import Derived.ReadAgain
import Derived.Lib.SmallJoins
import Derived.Test.YtlhgpeelenelbaaDoorP1
import Derived.Test.YtlhgpeelenelbaaDoorII
namespace Go.Proofs.YtlhgpeelenelbaaDoor
open Go.RowKit

def fewB (n n' : Nat) : Bool := (decide (n ≤ 6) || decide (24 < n) && decide (n ≤ 30)) && (decide (n' ≤ 8) || decide (40 < n') && decide (n' ≤ 50))
set_option maxHeartbeats 4000000 in
set_option maxRecDepth 100000 in
theorem few_any (A A' : Option Addr) (n c n' c' : Nat) (w : World) :
    Calls Tryd.prog 15 #[.agg #[.slice A n c, .slice A' n' c']] w fun e w' => e = .returned (.bool (fewB n n')) ∧ Below w.heap.size w w' := by
  obtain ⟨r, hr⟩ : ∃ r, fewB n n' = r := ⟨_, rfl⟩
  rw [hr]
  have h1 : (n : Int) ≤ 6 ∨ (6 < (n : Int) ∧ (n : Int) ≤ 24) ∨ (6 < (n : Int) ∧ 24 < (n : Int) ∧ (n : Int) ≤ 30) ∨ (6 < (n : Int) ∧ 24 < (n : Int) ∧ 30 < (n : Int)) := by omega
  have h2 : (n' : Int) ≤ 8 ∨ (8 < (n' : Int) ∧ (n' : Int) ≤ 40) ∨ (8 < (n' : Int) ∧ 40 < (n' : Int) ∧ (n' : Int) ≤ 50) ∨ (8 < (n' : Int) ∧ 40 < (n' : Int) ∧ 50 < (n' : Int)) := by omega
  have HV := Lib.hid hr.symm
  clear hr
  rcases h1 with a1 | ⟨a1, a2⟩ | ⟨a1, a2, a3⟩ | ⟨a1, a2, a3⟩ <;> rcases h2 with b1 | ⟨b1, b2⟩ | ⟨b1, b2, b3⟩ | ⟨b1, b2, b3⟩
  all_goals
    go_enter Tryd.func15, Tryd.ntmps15
    go_wp2_with fail
    go_ret
    exact ⟨by rw [HV.out]; cases hq : fewB n n' <;> first | rfl | (exact congrArg Ending.returned (congrArg Value.bool (decide_eq_false (by omega)))) | (exact congrArg Ending.returned (congrArg Value.bool (show decide ((n' : Int) ≤ 50) = false from decide_eq_false (by omega)))) | (show Ending.returned (Value.bool _) = _; simp; omega) | (exfalso; simp only [fewB, Bool.and_eq_true, Bool.or_eq_true, Bool.and_eq_false_iff, Bool.or_eq_false_iff, decide_eq_true_eq, decide_eq_false_iff_not] at hq; omega), (Below.refl _ _).alloc (Nat.le_refl _) _⟩
end Go.Proofs.YtlhgpeelenelbaaDoor

/- few, and the law TurnMinutes, its calls met by their contracts. -/
namespace Go.Proofs.YtlhgpeelenelbaaDoor
open Go.RowKit

theorem checkTurn_same (p f l : Int) : ∃ c : Int,
    (∀ W, Calls Tryd.prog 23 #[tv p f l] W fun e w' => e = .returned (.int .i64 c) ∧ Below W.heap.size W w') ∧
    (∀ W, Calls Tryd.prog 24 #[tv p f l] W fun e w' => e = .returned (.int .i64 c) ∧ Below W.heap.size W w') := by
  by_cases h : TOk p f l
  · exact ⟨0, fun W => checkTurn_ok p f l W h, fun W => rcheckTurn_ok p f l W h⟩
  · exact ⟨1, fun W => checkTurn_bad p f l W h, fun W => rcheckTurn_bad p f l W h⟩

/-- What the law reads: its set's value and its turn. -/
abbrev MS (w : World) (v0 v1 : Value) (p f l : Int) (W : World) : Prop :=
  W.cell? ⟨w.heap.size, 0, none⟩ = some v0 ∧ W.cell? ⟨w.heap.size, 1, none⟩ = some v1 ∧
  W.cell? ⟨w.heap.size + 1, 0, none⟩ = some (.int .i64 p) ∧ W.cell? ⟨w.heap.size + 1, 1, none⟩ = some (.int .i64 f) ∧ W.cell? ⟨w.heap.size + 1, 2, none⟩ = some (.int .i64 l) ∧
  w.heap.size + 1 < W.heap.size ∧ Below w.heap.size w W
def MSd (w : World) (v0 v1 : Value) (p f l : Int) (W : World) : Prop := MS w v0 v1 p f l W
section
variable {w W W' : World} {v0 v1 : Value} {p f l : Int}
theorem MSd.out (h : MSd w v0 v1 p f l W) : MS w v0 v1 p f l W := h
theorem MSd.below (h : MSd w v0 v1 p f l W) (hb : Below W.heap.size W W') : MSd w v0 v1 p f l W' := by
  obtain ⟨a0, a1, b0, b1, b2, l1, hB⟩ := h.out
  have hs := hb.size
  exact ⟨(hb.cell (p := ⟨w.heap.size, 0, none⟩) (by show w.heap.size < _; omega)).trans a0, (hb.cell (p := ⟨w.heap.size, 1, none⟩) (by show w.heap.size < _; omega)).trans a1, (hb.cell (p := ⟨w.heap.size + 1, 0, none⟩) l1).trans b0, (hb.cell (p := ⟨w.heap.size + 1, 1, none⟩) l1).trans b1, (hb.cell (p := ⟨w.heap.size + 1, 2, none⟩) l1).trans b2, by omega, hB.trans (hb.mono (by omega))⟩
theorem MSd.drew (h : MSd w v0 v1 p f l W) : MSd w v0 v1 p f l W.drew := h.below (Below.refl _ _).drew
theorem MSd.new (t t' : TypeId) : MSd w v0 v1 p f l ((w.alloc (.cells #[v0, v1] t)).alloc (.cells #[.int .i64 p, .int .i64 f, .int .i64 l] t')) :=
  ⟨by simp [go_sem], by simp [go_sem], by simp [go_sem], by simp [go_sem], by simp [go_sem], by simp, ((Below.refl _ _).alloc (Nat.le_refl _) _).alloc (by simp) _⟩
theorem MSd.bel (h : MSd w v0 v1 p f l W) : Below w.heap.size w W := h.out.2.2.2.2.2.2
theorem MSd.siz (h : MSd w v0 v1 p f l W) : w.heap.size ≤ W.heap.size := h.bel.size
end

set_option maxHeartbeats 4000000 in
set_option maxRecDepth 100000 in
theorem minutes_no (hsan : ∀ W, Calls Tryd.prog 16 #[] W fun e w' => e = .returned (.bool true) ∧ Below W.heap.size W w')
    (A A' : Option Addr) (k c k' c' : Nat) (p f l n : Int) (w : World) (hf : fewB k k' = false) :
    Calls Tryd.prog 3 #[.agg #[.slice A k c, .slice A' k' c'], tv p f l, .int .i64 n] w fun e w' => e = .returned (.bool true) ∧ Below w.heap.size w w' := by
  have F := Lib.hid fun W => few_any A A' k c k' c' W
  rw [hf] at F
  have HS := Lib.hid hsan
  clear hsan hf
  have S0 := Lib.hid (MSd.new (w := w) (v0 := .slice A k c) (v1 := .slice A' k' c') (p := p) (f := f) (l := l) 25 27)
  go_enter Tryd.func3, Tryd.ntmps3
  go_wp2_with fail
  refine (F.out _).mono ?_
  rintro e w1 ⟨rfl, h1⟩
  have S1 := Lib.hid (S0.out.below h1)
  clear h1 S0
  go_wp2_with fail
  refine (HS.out _).mono ?_
  rintro e w2 ⟨rfl, h2⟩
  have S2 := Lib.hid (S1.out.below h2)
  clear h2 S1
  go_wp2_with fail
  go_ret
  exact ⟨rfl, S2.out.bel⟩

set_option maxHeartbeats 4000000 in
set_option maxRecDepth 100000 in
theorem minutes_yes (hsan : ∀ W, Calls Tryd.prog 16 #[] W fun e w' => e = .returned (.bool true) ∧ Below W.heap.size W w')
    (A A' : Option Addr) (k c k' c' : Nat) (ts : List T3) (ss : List S2) (p f l n : Int) (w : World) (h : RM w.heap.size (.agg #[.slice A k c, .slice A' k' c']) ts ss w) (hf : fewB k k' = true) :
    Calls Tryd.prog 3 #[.agg #[.slice A k c, .slice A' k' c'], tv p f l, .int .i64 n] w fun e w' => e = .returned (.bool true) ∧ Below w.heap.size w w' := by
  have F := Lib.hid fun W => few_any A A' k c k' c' W
  rw [hf] at F
  have HS := Lib.hid hsan
  obtain ⟨cc, T1, T2⟩ := checkTurn_same p f l
  have HT1 := Lib.hid T1
  have HT2 := Lib.hid T2
  obtain ⟨ck, hc⟩ := CheckIs.exists_ ts ss
  obtain ⟨d, hd⟩ := AtIs.exists_ ck n
  obtain ⟨r1, q1, hN⟩ := NextIs.exists_ ts ss n d
  obtain ⟨r2, q2, hL⟩ := LastIs.exists_ ts ss n d
  have H1 := Lib.hid fun W (S : MSd w (.slice A k c) (.slice A' k' c') p f l W) => holds_any _ ts ss n ck d W (h.up S.siz S.bel) hc hd
  have H2 := Lib.hid fun W (S : MSd w (.slice A k c) (.slice A' k' c') p f l W) => rholds_any _ ts ss n ck d W (h.up S.siz S.bel) hc hd
  have N1 := Lib.hid fun W (S : MSd w (.slice A k c) (.slice A' k' c') p f l W) => next_any _ ts ss n ck d r1 q1 W (h.up S.siz S.bel) hc hd hN
  have N2 := Lib.hid fun W (S : MSd w (.slice A k c) (.slice A' k' c') p f l W) => rnext_any _ ts ss n ck d r1 q1 W (h.up S.siz S.bel) hc hd hN
  have L1 := Lib.hid fun W (S : MSd w (.slice A k c) (.slice A' k' c') p f l W) => last_any _ ts ss n ck d r2 q2 W (h.up S.siz S.bel) hc hd hL
  have L2 := Lib.hid fun W (S : MSd w (.slice A k c) (.slice A' k' c') p f l W) => rlast_any _ ts ss n ck d r2 q2 W (h.up S.siz S.bel) hc hd hL
  have RTS : ∀ W, MSd w (.slice A k c) (.slice A' k' c') p f l W → RT W.heap.size (.slice A k c) ts W ∧ RS W.heap.size (.slice A' k' c') ss W := fun W S => by
    obtain ⟨a, b, e, a', b', e', hv, x1, x2⟩ := h.up S.siz S.bel
    obtain ⟨⟨rfl, rfl, rfl⟩, rfl, rfl, rfl⟩ := by simpa using hv
    exact ⟨x1, x2⟩
  have K1 := Lib.hid fun W (S : MSd w (.slice A k c) (.slice A' k' c') p f l W) => check_any _ _ ts ss ck W (RTS W S).1 (RTS W S).2 hc
  have K2 := Lib.hid fun W (S : MSd w (.slice A k c) (.slice A' k' c') p f l W) => rcheck_any _ _ ts ss ck W (RTS W S).1 (RTS W S).2 hc
  generalize (decide (d = 0) && setB (lotsOf ts ss) n) = b at *
  clear hsan hf T1 T2 hc hd hN hL h RTS
  have S0 := Lib.hid (MSd.new (w := w) (v0 := .slice A k c) (v1 := .slice A' k' c') (p := p) (f := f) (l := l) 25 27)
  go_enter Tryd.func3, Tryd.ntmps3
  go_wp2_with fail
  refine (F.out _).mono ?_
  rintro e w1 ⟨rfl, h1⟩
  have S := Lib.hid (S0.out.below h1)
  clear h1 S0
  obtain ⟨t0, t1, t2, t3, t4, t5, _⟩ := S.out.out
  go_wp2_with fail
  refine (H1.out _ S.out).mono ?_
  rintro e w2 ⟨rfl, h2⟩
  have S := Lib.hid (S.out.below h2)
  clear h2 t0 t1 t2 t3 t4 t5
  obtain ⟨t0, t1, t2, t3, t4, t5, _⟩ := S.out.out
  go_wp2_with fail
  refine (H2.out _ S.out).mono ?_
  rintro e w3 ⟨rfl, h3⟩
  have S := Lib.hid (S.out.below h3)
  clear h3 t0 t1 t2 t3 t4 t5
  obtain ⟨t0, t1, t2, t3, t4, t5, _⟩ := S.out.out
  go_wp2_with fail
  refine (N1.out _ S.out).mono ?_
  rintro e w4 ⟨rfl, h4⟩
  have S := Lib.hid (S.out.below h4)
  clear h4 t0 t1 t2 t3 t4 t5
  obtain ⟨t0, t1, t2, t3, t4, t5, _⟩ := S.out.out
  go_wp2_with fail
  refine (N2.out _ S.out).mono ?_
  rintro e w5 ⟨rfl, h5⟩
  have S := Lib.hid (S.out.below h5)
  clear h5 t0 t1 t2 t3 t4 t5
  obtain ⟨t0, t1, t2, t3, t4, t5, _⟩ := S.out.out
  go_wp2_with fail
  refine (L1.out _ S.out).mono ?_
  rintro e w6 ⟨rfl, h6⟩
  have S := Lib.hid (S.out.below h6)
  clear h6 t0 t1 t2 t3 t4 t5
  obtain ⟨t0, t1, t2, t3, t4, t5, _⟩ := S.out.out
  go_wp2_with fail
  refine (L2.out _ S.out).mono ?_
  rintro e w7 ⟨rfl, h7⟩
  have S7 := Lib.hid (S.out.below h7)
  clear h7 t0 t1 t2 t3 t4 t5 S
  obtain ⟨t0, t1, t2, t3, t4, t5, _⟩ := S7.out.out
  go_wp2_with fail
  go_region_held3 (MS w (.slice A k c) (.slice A' k' c') p f l) ((refine MSd.out ?_; with_reducible (first | exact L12 | exact L11 | exact L10 | exact L9 | exact L8 | exact MSd.drew S7.out)))
    (first
      | (go_at_call 16; refine (HS.out _).mono ?_; rintro e w8 ⟨rfl, h8⟩; have L8 : MSd w (.slice A k c) (.slice A' k' c') p f l w8 := MSd.below (MSd.drew S7.out) h8; clear h8)
      | (go_at_call 23; refine (HT1.out _).mono ?_; rintro e w9 ⟨rfl, h9⟩; have L9 : MSd w (.slice A k c) (.slice A' k' c') p f l w9 := MSd.below L8 h9; clear h9)
      | (go_at_call 24; refine (HT2.out _).mono ?_; rintro e w10 ⟨rfl, h10⟩; have L10 : MSd w (.slice A k c) (.slice A' k' c') p f l w10 := MSd.below L9 h10; clear h10)
      | (go_at_call 25; refine (K1.out _ L10).mono ?_; rintro e w11 ⟨rfl, h11⟩; have L11 : MSd w (.slice A k c) (.slice A' k' c') p f l w11 := MSd.below L10 h11; clear h11)
      | (go_at_call 26; refine (K2.out _ L11).mono ?_; rintro e w12 ⟨rfl, h12⟩; have L12 : MSd w (.slice A k c) (.slice A' k' c') p f l w12 := MSd.below L11 h12; clear h12))
  go_wp2_with fail
  go_ret
  exact ⟨rfl, L12.bel⟩
end Go.Proofs.YtlhgpeelenelbaaDoor

/- How a set that came in is opened: its two slices, their numbers; how the arguments read behind a call that leaves them. -/
namespace Go.Proofs.YtlhgpeelenelbaaDoor
open Go.ChangeShapes Go.WideShapes Go.ChangeAt Go.RowKit Go.Joins

theorem qcells3 : Tryd.prog.cellsOf 3 = 1 := by kernel_rfl
theorem qcellsT : Tryd.prog.cellsOf 27 = 3 := by kernel_rfl
theorem qcellsS : Tryd.prog.cellsOf 49 = 2 := by kernel_rfl
theorem qcellsM : Tryd.prog.cellsOf 25 = 2 := by kernel_rfl
theorem qkids : Kids Tryd.prog (· < Tryd.prog.types.size) := kids_rows (by kernel_rfl) (by kernel_rfl)
theorem qfull : ∀ t e, t < Tryd.prog.types.size → Tryd.prog.underlying t = some (.slice e) → 0 < Tryd.prog.cellsOf e := slices_full_of Tryd.prog (by kernel_rfl)

theorem spot_none {W : World} {a : Addr} {v : Value} (h : W.cell? a = some v) : a.spot = none := by
  cases hs : a.spot with
  | none => rfl
  | some x =>
    unfold World.cell? at h
    rw [hs] at h
    split at h <;> simp at h
theorem add_plain {a : Addr} (h : a.spot = none) (k : Nat) : a.add k = ⟨a.block, a.off + k, none⟩ := by
  obtain ⟨b, o, s⟩ := a
  simp only at h
  subst h
  unfold Addr.add
  split
  · rename_i hk; subst hk; rfl
  · rfl

section
variable {H : Type} {enc : TypeId × Value → H} {W : World} {base : Nat} {sp : Nat → Bool}
set_option maxRecDepth 100000 in
theorem turn_cells {n : Nat} {b : Addr} {x : DataW H × List MemPlace} (hc : (W.cells? base b 3).bind (DataW.trod enc Tryd.prog W base sp true n 27) = some x) :
    ∃ p f l, W.cell? (b.add 0) = some (.int .i64 p) ∧ W.cell? (b.add 1) = some (.int .i64 f) ∧ W.cell? (b.add 2) = some (.int .i64 l) := by
  rw [Option.bind_eq_some_iff] at hc
  obtain ⟨cs, h1, h2⟩ := hc
  obtain ⟨_, hl, hcell⟩ := World.cells?_some h1
  obtain ⟨xs, m, _, _, _, hxl, hf⟩ := DataW.trod_struct Tryd.underlying27 h2
  match cs, hl with
  | [u0, u1, u2], _ =>
    obtain ⟨x0, e0⟩ : ∃ y, xs[0]? = some y := ⟨_, List.getElem?_eq_getElem (by rw [hxl]; decide)⟩
    obtain ⟨x1, e1⟩ : ∃ y, xs[1]? = some y := ⟨_, List.getElem?_eq_getElem (by rw [hxl]; decide)⟩
    obtain ⟨x2, e2⟩ : ∃ y, xs[2]? = some y := ⟨_, List.getElem?_eq_getElem (by rw [hxl]; decide)⟩
    have r0 := hf 0 _ rfl
    have q0 : DataW.trod enc Tryd.prog W base sp true m 3 (([u0, u1, u2].drop 0).take (Tryd.prog.cellsOf 3)) = xs[0]? := r0
    rw [qcells3, e0] at q0
    have r1 := hf 1 _ rfl
    have q1 : DataW.trod enc Tryd.prog W base sp true m 3 (([u0, u1, u2].drop 1).take (Tryd.prog.cellsOf 3)) = xs[1]? := r1
    rw [qcells3, e1] at q1
    have r2 := hf 2 _ rfl
    have q2 : DataW.trod enc Tryd.prog W base sp true m 3 (([u0, u1, u2].drop 2).take (Tryd.prog.cellsOf 3)) = xs[2]? := r2
    rw [qcells3, e2] at q2
    obtain ⟨p, hp, _⟩ := DataW.trod_int Tryd.underlying3 q0
    obtain ⟨f, hp1, _⟩ := DataW.trod_int Tryd.underlying3 q1
    obtain ⟨l, hp2, _⟩ := DataW.trod_int Tryd.underlying3 q2
    simp at hp hp1 hp2
    subst hp hp1 hp2
    exact ⟨p, f, l, (hcell 0 (by omega)).trans rfl, (hcell 1 (by omega)).trans rfl, (hcell 2 (by omega)).trans rfl⟩
set_option maxRecDepth 100000 in
theorem span_cells {n : Nat} {b : Addr} {x : DataW H × List MemPlace} (hc : (W.cells? base b 2).bind (DataW.trod enc Tryd.prog W base sp true n 49) = some x) :
    ∃ p f, W.cell? (b.add 0) = some (.int .i64 p) ∧ W.cell? (b.add 1) = some (.int .i64 f) := by
  rw [Option.bind_eq_some_iff] at hc
  obtain ⟨cs, h1, h2⟩ := hc
  obtain ⟨_, hl, hcell⟩ := World.cells?_some h1
  obtain ⟨xs, m, _, _, _, hxl, hf⟩ := DataW.trod_struct Tryd.underlying49 h2
  match cs, hl with
  | [u0, u1], _ =>
    obtain ⟨x0, e0⟩ : ∃ y, xs[0]? = some y := ⟨_, List.getElem?_eq_getElem (by rw [hxl]; decide)⟩
    obtain ⟨x1, e1⟩ : ∃ y, xs[1]? = some y := ⟨_, List.getElem?_eq_getElem (by rw [hxl]; decide)⟩
    have r0 := hf 0 _ rfl
    have q0 : DataW.trod enc Tryd.prog W base sp true m 3 (([u0, u1].drop 0).take (Tryd.prog.cellsOf 3)) = xs[0]? := r0
    rw [qcells3, e0] at q0
    have r1 := hf 1 _ rfl
    have q1 : DataW.trod enc Tryd.prog W base sp true m 3 (([u0, u1].drop 1).take (Tryd.prog.cellsOf 3)) = xs[1]? := r1
    rw [qcells3, e1] at q1
    obtain ⟨p, hp, _⟩ := DataW.trod_int Tryd.underlying3 q0
    obtain ⟨f, hp1, _⟩ := DataW.trod_int Tryd.underlying3 q1
    simp at hp hp1
    subst hp hp1
    exact ⟨p, f, (hcell 0 (by omega)).trans rfl, (hcell 1 (by omega)).trans rfl⟩

theorem turns_open {fuel : Nat} {v : Value} {y : DataW H × List MemPlace} (h : DataW.trod enc Tryd.prog W base sp true fuel 22 [v] = some y) :
    ∃ A n c, v = .slice A n c ∧ (n ≤ 1000000000000 → ∃ ts : List T3, RT W.heap.size v ts W) := by
  rcases DataW.trod_slice Tryd.underlying22 h with ⟨e, _⟩ | ⟨a, len, cap, elems, rest, m, _, e, _, _, _, _, hlen, hel, _, _⟩
  · injection e with e _
    exact ⟨none, 0, 0, e, fun _ => ⟨[], none, 0, e, by simp, fun h => by simp at h⟩⟩
  · injection e with e _
    refine ⟨some a, len, cap, e, fun hl => ?_⟩
    have each : ∀ i, ∃ t : T3, i < len → W.cell? ((a.add (i * 3)).add 0) = some (.int .i64 t.1) ∧ W.cell? ((a.add (i * 3)).add 1) = some (.int .i64 t.2.1) ∧ W.cell? ((a.add (i * 3)).add 2) = some (.int .i64 t.2.2) := fun i => by
      by_cases hi : i < len
      · have q := hel i hi
        rw [qcellsT, List.getElem?_eq_getElem (by omega)] at q
        obtain ⟨p, f, l, c0, c1, c2⟩ := turn_cells q
        exact ⟨(p, f, l), fun _ => ⟨c0, c1, c2⟩⟩
      · exact ⟨(0, 0, 0), fun h => absurd h hi⟩
    obtain ⟨g, hg⟩ := Classical.axiomOfChoice each
    refine ⟨(List.range len).map g, some a, cap, by rw [e]; simp, by simpa using hl, fun hp => ?_⟩
    have hp' : 0 < len := by simpa using hp
    have h0 := (hg 0 hp').1
    have hcell0 : W.cell? a = some (.int .i64 (g 0).1) := by simpa [Addr.add] using h0
    have hsp : a.spot = none := spot_none hcell0
    have hadd := add_plain hsp
    obtain ⟨b, o, s⟩ := a
    simp only at hsp
    subst hsp
    refine ⟨b, o, rfl, World.block_lt_of_cell? _ _ hcell0, fun k p f l hk => ?_⟩
    have hk' : k < len ∧ g k = (p, f, l) := by
      rw [List.getElem?_map] at hk
      by_cases hkl : k < len
      · rw [List.getElem?_range hkl] at hk
        simp at hk
        exact ⟨hkl, hk⟩
      · rw [List.getElem?_eq_none (by simp; omega)] at hk
        cases hk
    obtain ⟨c0, c1, c2⟩ := hg k hk'.1
    rw [hk'.2] at c0 c1 c2
    rw [hadd] at c0 c1 c2
    exact ⟨c0, c1, c2⟩
theorem spans_open {fuel : Nat} {v : Value} {y : DataW H × List MemPlace} (h : DataW.trod enc Tryd.prog W base sp true fuel 23 [v] = some y) :
    ∃ A n c, v = .slice A n c ∧ (n ≤ 1000000000000 → ∃ ss : List S2, RS W.heap.size v ss W) := by
  rcases DataW.trod_slice Tryd.underlying23 h with ⟨e, _⟩ | ⟨a, len, cap, elems, rest, m, _, e, _, _, _, _, hlen, hel, _, _⟩
  · injection e with e _
    exact ⟨none, 0, 0, e, fun _ => ⟨[], none, 0, e, by simp, fun h => by simp at h⟩⟩
  · injection e with e _
    refine ⟨some a, len, cap, e, fun hl => ?_⟩
    have each : ∀ i, ∃ t : S2, i < len → W.cell? ((a.add (i * 2)).add 0) = some (.int .i64 t.1) ∧ W.cell? ((a.add (i * 2)).add 1) = some (.int .i64 t.2) := fun i => by
      by_cases hi : i < len
      · have q := hel i hi
        rw [qcellsS, List.getElem?_eq_getElem (by omega)] at q
        obtain ⟨p, f, c0, c1⟩ := span_cells q
        exact ⟨(p, f), fun _ => ⟨c0, c1⟩⟩
      · exact ⟨(0, 0), fun h => absurd h hi⟩
    obtain ⟨g, hg⟩ := Classical.axiomOfChoice each
    refine ⟨(List.range len).map g, some a, cap, by rw [e]; simp, by simpa using hl, fun hp => ?_⟩
    have hp' : 0 < len := by simpa using hp
    have h0 := (hg 0 hp').1
    have hcell0 : W.cell? a = some (.int .i64 (g 0).1) := by simpa [Addr.add] using h0
    have hsp : a.spot = none := spot_none hcell0
    have hadd := add_plain hsp
    obtain ⟨b, o, s⟩ := a
    simp only at hsp
    subst hsp
    refine ⟨b, o, rfl, World.block_lt_of_cell? _ _ hcell0, fun k p f hk => ?_⟩
    have hk' : k < len ∧ g k = (p, f) := by
      rw [List.getElem?_map] at hk
      by_cases hkl : k < len
      · rw [List.getElem?_range hkl] at hk
        simp at hk
        exact ⟨hkl, hk⟩
      · rw [List.getElem?_eq_none (by simp; omega)] at hk
        cases hk
    obtain ⟨c0, c1⟩ := hg k hk'.1
    rw [hk'.2] at c0 c1
    rw [hadd] at c0 c1
    exact ⟨c0, c1⟩
set_option maxRecDepth 100000 in
/-- A set that came in: two slices; where they are no longer than memory can be walked, they read as lists. -/
theorem set_open {b0 : Nat} {v : Value} {d : DataW H} {p : List MemPlace} (hv : Value.okWide Tryd.prog W .any b0 25 v) (h : DataW.Trod enc Tryd.prog W base sp true 25 v d p) :
    ∃ A n c A' n' c', v = .agg #[.slice A n c, .slice A' n' c'] ∧ (n ≤ 1000000000000 → n' ≤ 1000000000000 → ∃ ts ss, RM W.heap.size v ts ss W) := by
  obtain ⟨v0, v1, y0, y1, m, rfl, _, _, h0, h1⟩ := open_agg2 Tryd.underlying25 (by kernel_rfl) qcellsM hv h
  obtain ⟨A, n, c, rfl, k0⟩ := turns_open h0
  obtain ⟨A', n', c', rfl, k1⟩ := spans_open h1
  refine ⟨A, n, c, A', n', c', rfl, fun l0 l1 => ?_⟩
  obtain ⟨ts, r0⟩ := k0 l0
  obtain ⟨ss, r1⟩ := k1 l1
  exact ⟨ts, ss, A, n, c, A', n', c', rfl, r0, r1⟩
end

section
variable {H : Type} {enc : TypeId × Value → H}
theorem trodAll_below {P : Program} {W W' : World} {base : Nat} {sp : Nat → Bool} {held : Bool} (hB : Below W.heap.size W W') : ∀ {ts : List TypeId} {vs : List Value} {ds : List (DataW H)} {ps : List MemPlace},
    DataW.TrodAll enc P W base sp held ts vs ds ps → DataW.TrodAll enc P W' base sp held ts vs ds ps
  | [], [], [], _, h => h
  | _ :: _, _ :: _, _ :: _, _, ⟨p, q, ⟨n, h1⟩, h2, e⟩ => ⟨p, q, ⟨n, DataW.trod_carry n _ _ _ h1 (fun x hx => hB.same (DataW.trod_lt n _ _ _ h1 x hx))⟩, trodAll_below hB h2, e⟩
/-- Behind a call that leaves what was there, the arguments read as they did. -/
theorem args_again {W W' : World} (hB : Below W.heap.size W W') {ts : List TypeId} {vs : List Value} {ds : List (DataW H)} {ps : List MemPlace} (ht : ∀ t ∈ ts, t < Tryd.prog.types.size)
    (h : DataW.TrodAll enc Tryd.prog W 0 (fun _ => true) true ts vs ds ps) : DataW.TrodAll enc Tryd.prog W' 0 (fun b => decide (b < W.heap.size)) true ts vs ds ps :=
  by
  have hl : ∀ p ∈ ps, p.block < W.heap.size := fun p hp => DataW.TrodAll.lt h p hp
  have hs : ∀ p ∈ ps, (fun b => decide (b < W.heap.size)) p.block = true := fun p hp => decide_eq_true (hl p hp)
  exact DataW.TrodAll.respare qkids qfull ht (trodAll_below hB h) hs
end
end Go.Proofs.YtlhgpeelenelbaaDoor

/- The law TurnMinutes holds for every input, given that sanity answers true: the row, and its card. -/
namespace Go.Proofs.YtlhgpeelenelbaaDoor
open Go.ChangeShapes Go.WideShapes Go.ChangeAt Go.RowKit Go.Joins

namespace turnMinutes
def wargs : Array Value := #[.agg #[.slice none 0 0, .slice none 0 0], tv 0 0 0, .int .i64 0]
theorem laid_met (os : Os) : laidMet Tryd.prog Rows.turnMinutesRow.laid ((laidWorld os).forCall (fun _ _ => 0) ⟨#[], wargs, []⟩).memory :=
  laidMet_of_run' 8 (by kernel_rfl) (by kernel_rfl)
theorem reads (os : Os) {H : Type} (enc : TypeId × Value → H) : ∃ places, DataW.whole enc Tryd.prog ((laidWorld os).forCall (fun _ _ => 0) ⟨#[], wargs, []⟩).memory Tryd.f3.params.toList Rows.turnMinutesSpec.vars false wargs.toList 8 = some ([.agg [.nil, .nil], .agg [.lit (.int .i64 0), .lit (.int .i64 0), .lit (.int .i64 0)], .lit (.int .i64 0)], [], places) :=
  ⟨[], by kernel_rfl⟩

set_option maxHeartbeats 1000000 in
set_option maxRecDepth 100000 in
/-- What the walk gives, for every argument. -/
theorem contract (hsan : ∀ W, Calls Tryd.prog 16 #[] W fun e w' => e = .returned (.bool true) ∧ Below W.heap.size W w') (H : Type) (enc : TypeId × Value → H) (W : World) (base : Nat) (args : Array Value) (ds gs : List (DataW H)) (before : List MemPlace)
    (hval : ∀ (j : Nat) t v, Tryd.f3.params[j]? = some t → args[j]? = some v → Value.okWide Tryd.prog W .any base t v)
    (hW : DataW.Whole enc Tryd.prog Tryd.f3.params.toList Rows.turnMinutesSpec.vars false W args.toList ds gs before) :
    Calls Tryd.prog 3 args W fun e W' => ∃ v, e = .returned v ∧ Rows.turnMinutesSpec.post enc Tryd.prog Tryd.f3 false true false false W args v W' := by
  have hW' := hW
  obtain ⟨p, q, hA0, hV, rfl, hfz, hnd⟩ := hW
  have hA : DataW.TrodAll enc Tryd.prog W 0 (fun _ => true) true Tryd.f3.params.toList args.toList ds p := hA0
  have hAk := hA
  have hsize : ∀ t ∈ Tryd.f3.params.toList, t < Tryd.prog.types.size := by rw [Tryd.params3]; decide +kernel
  rw [Tryd.params3] at hA hval
  obtain ⟨v0, vs0, d0, ds0, p0, q0, hargs, rfl, rfl, h0, r0⟩ := trodAll_cons hA
  obtain ⟨v1, vs1, d1, ds1, p1, q1, rfl, rfl, rfl, h1, r1⟩ := trodAll_cons r0
  obtain ⟨v2, vs2, d2, ds2, p2, q2, rfl, rfl, rfl, h2, r2⟩ := trodAll_cons r1
  obtain ⟨rfl, rfl, rfl⟩ := trodAll_nil r2
  obtain rfl : args = #[v0, v1, v2] := by cases args; simp_all
  obtain ⟨rfl, rfl⟩ := trodVars_none hV
  obtain ⟨A, k, c, A', k', c', rfl, hopen⟩ := set_open (hval 0 25 v0 rfl rfl) h0
  obtain ⟨e0, e1, e2, y0, y1, y2, m, rfl, rfl, rfl, hy0, hy1, hy2⟩ := open_agg3 Tryd.underlying27 (by kernel_rfl) cells27 (hval 1 27 v1 rfl rfl) h1
  obtain ⟨pa, z0, rfl, w0⟩ := DataW.trod_int Tryd.underlying3 hy0
  obtain ⟨fa, z1, rfl, w1⟩ := DataW.trod_int Tryd.underlying3 hy1
  obtain ⟨la, z2, rfl, w2⟩ := DataW.trod_int Tryd.underlying3 hy2
  simp at z0 z1 z2
  subst z0 z1 z2
  obtain ⟨n, rfl, rfl, rfl, wn⟩ := open_int Tryd.underlying3 (hval 2 3 v2 rfl rfl) h2
  have hcall : Calls Tryd.prog 3 #[.agg #[.slice A k c, .slice A' k' c'], tv pa fa la, .int .i64 n] W fun e w' => e = .returned (.bool true) ∧ Below W.heap.size W w' := by
    cases hf : fewB k k' with
    | false => exact minutes_no hsan A A' k c k' c' pa fa la n W hf
    | true =>
      have hk : k ≤ 30 ∧ k' ≤ 50 := by
        simp only [fewB, Bool.and_eq_true, Bool.or_eq_true, decide_eq_true_eq] at hf
        omega
      obtain ⟨ts, ss, hR⟩ := hopen (by omega) (by omega)
      exact minutes_yes hsan A A' k c k' c' ts ss pa fa la n W hR hf
  refine hcall.mono fun e W' ⟨he, hb⟩ => ?_
  subst he
  refine ⟨_, rfl, _, _, _, [], _, [], hW', ?_, args_again hb hsize hAk, ?_, hb.frame _, fun h => by cases h⟩
  · exact trodAll_cons_mk (shut_bool Tryd.underlying4 _) trodAll_mk0
  · rfl

set_option maxRecDepth 100000 in
theorem lifted (hsan : ∀ W, Calls Tryd.prog 16 #[] W fun e w' => e = .returned (.bool true) ∧ Below W.heap.size W w') (os : Os) (started : os.Started) (H : Type) (enc : TypeId × Value → H) (F : Stop.Interp) :
    ReturnsInHanded {} Tryd.checked os 3 .any ((OpenSpec.ofChange Rows.turnMinutesSpec).preRow enc Tryd.prog Tryd.f3 Rows.turnMinutesRow.domain false Rows.turnMinutesRow.laid) (((OpenSpec.ofChange Rows.turnMinutesSpec).at F).post enc Tryd.prog Tryd.f3 false true false false) := by
  obtain ⟨places, hx⟩ := reads os enc
  refine returnsInHanded_of_row (C := Tryd.checked) (s := OpenSpec.ofChange Rows.turnMinutesSpec) own started (by kernel_rfl) Tryd.func3
    (witness_row_at (enc := enc) (C := Tryd.checked) false (laidWorld os) wargs rfl (by kernel_rfl) (by kernel_rfl) (by kernel_rfl)
      (OpenSpec.preRow_of_cond 8 hx (by kernel_rfl) (fun k hk => by cases hk) (by kernel_rfl) (laid_met os))) ?_
  intro W base args ds gs before hval hW _ _ _ hL _ _
  exact contract hsan H enc W base args ds gs before hval hW

theorem said (hsan : ∀ W, Calls Tryd.prog 16 #[] W fun e w' => e = .returned (.bool true) ∧ Below W.heap.size W w') : Rows.TurnMinutesSaid :=
  OpenClaim.holds_of_cond 3 Tryd.f3 rfl rfl rfl rfl rfl rfl rfl ⟨rfl, rfl, rfl, rfl, rfl⟩ rfl rfl rfl rfl rfl (by kernel_rfl) Tryd.func3 (by kernel_rfl)
    (of_decide_eq_true (by kernel_rfl)) (by unfold Func.isWrapper; first | (rw [if_pos (by decide +kernel)]; kernel_rfl) | (rw [if_neg (by decide +kernel)]; exact ⟨rfl, rfl⟩))
    (fun os started H enc _ F => by rw [OpenClaim.pre_eq_preRow]; exact lifted hsan os started H enc F)

/-- No parameter wants a stand-in; the program's own looks are off: what the card asks. -/
theorem plain (f : FuncId) (fn : Func) (hf : Tryd.pinned.checked.prog.funcNamed "drowner/drownerlaw01.TurnMinutes" = some f) (hfn : Tryd.pinned.checked.prog.funcs[f]? = some fn) :
    false = Tryd.pinned.checked.prog.looks [] ∧ ∀ (j : Nat) t, fn.params[j]? = some t → Tryd.pinned.checked.prog.wantsStandIn t = false := by
  obtain rfl : f = 3 := Option.some.inj ((show Tryd.prog.funcNamed "drowner/drownerlaw01.TurnMinutes" = some 3 by kernel_rfl).symm.trans hf) |>.symm
  obtain rfl : fn = Tryd.f3 := (Option.some.inj (Tryd.func3.symm.trans hfn)).symm
  refine ⟨by kernel_rfl, fun j t ht => ?_⟩
  rw [Tryd.params3] at ht
  have hm := Array.mem_of_getElem? ht
  simp at hm
  rcases hm with rfl | rfl | rfl
  · exact (show Tryd.prog.wantsStandIn 25 = false by kernel_rfl)
  · exact (show Tryd.prog.wantsStandIn 27 = false by kernel_rfl)
  · exact (show Tryd.prog.wantsStandIn 3 = false by kernel_rfl)

theorem card (hsan : ∀ W, Calls Tryd.prog 16 #[] W fun e w' => e = .returned (.bool true) ∧ Below W.heap.size W w') : Rows.TurnMinutesCardSaid :=
  Claim7.holds_tied_plain_at .later [] _ _ _ _ (said hsan) (fun _ h => by cases h) (by kernel_rfl) (fun _ h => by cases h) turnMinutes_row_tie rfl ⟨rfl, rfl⟩ (by kernel_rfl) rfl plain (by kernel_rfl)
end turnMinutes
end Go.Proofs.YtlhgpeelenelbaaDoor

/- The law TurnMinutes holds for every input: a set, a turn and a minute. No condition beside the statement's own. -/
namespace Go.Proofs.YtlhgpeelenelbaaDoor
theorem turnMinutes_holds : Rows.TurnMinutesCardSaid := turnMinutes.card sanity_any
end Go.Proofs.YtlhgpeelenelbaaDoor
