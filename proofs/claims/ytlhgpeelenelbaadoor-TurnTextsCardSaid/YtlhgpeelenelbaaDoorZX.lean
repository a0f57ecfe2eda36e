/- The law TurnTexts holds for every input: every set of turns and spans, and every text. No condition beside the statement's own. -/
import Derived.Test.YtlhgpeelenelbaaDoorC4
import Derived.ProofKit
import Derived.OpenShut
import Derived.ReadAgain
import Derived.Lib.SmallJoins
import Derived.Test.YtlhgpeelenelbaaDoorP1
import Derived.Test.YtlhgpeelenelbaaDoorRC
import Derived.Test.YtlhgpeelenelbaaDoorII
namespace Go.Proofs.YtlhgpeelenelbaaDoor
open Go.ChangeShapes Go.WideShapes Go.ChangeAt Go.RowKit Go.Joins

theorem qcells3 : Tryd.prog.cellsOf 3 = 1 := by kernel_rfl
theorem qcellsT : Tryd.prog.cellsOf 27 = 3 := by kernel_rfl
theorem qcellsS : Tryd.prog.cellsOf 49 = 2 := by kernel_rfl
theorem qcellsM : Tryd.prog.cellsOf 25 = 2 := by kernel_rfl
theorem qkids : Kids Tryd.prog (· < Tryd.prog.types.size) := kids_rows (by kernel_rfl) (by kernel_rfl)
theorem qfull : ∀ t e, t < Tryd.prog.types.size → Tryd.prog.underlying t = some (.slice e) → 0 < Tryd.prog.cellsOf e := slices_full_of Tryd.prog (by kernel_rfl)

theorem spot_none {W : World} {a : Addr} {v : Value} (h : W.cell? a = some v) : a.spot = none := by
  cases hs : a.spot with
  | none => rfl
  | some x =>
    unfold World.cell? at h
    rw [hs] at h
    split at h <;> simp at h
theorem add_plain {a : Addr} (h : a.spot = none) (k : Nat) : a.add k = ⟨a.block, a.off + k, none⟩ := by
  obtain ⟨b, o, s⟩ := a
  simp only at h
  subst h
  unfold Addr.add
  split
  · rename_i hk; subst hk; rfl
  · rfl

section
variable {H : Type} {enc : TypeId × Value → H} {W : World} {base : Nat} {sp : Nat → Bool}
set_option maxRecDepth 100000 in
theorem turn_cells {n : Nat} {b : Addr} {x : DataW H × List MemPlace} (hc : (W.cells? base b 3).bind (DataW.trod enc Tryd.prog W base sp true n 27) = some x) :
    ∃ p f l, W.cell? (b.add 0) = some (.int .i64 p) ∧ W.cell? (b.add 1) = some (.int .i64 f) ∧ W.cell? (b.add 2) = some (.int .i64 l) := by
  rw [Option.bind_eq_some_iff] at hc
  obtain ⟨cs, h1, h2⟩ := hc
  obtain ⟨_, hl, hcell⟩ := World.cells?_some h1
  obtain ⟨xs, m, _, _, _, hxl, hf⟩ := DataW.trod_struct Tryd.underlying27 h2
  match cs, hl with
  | [u0, u1, u2], _ =>
    obtain ⟨x0, e0⟩ : ∃ y, xs[0]? = some y := ⟨_, List.getElem?_eq_getElem (by rw [hxl]; decide)⟩
    obtain ⟨x1, e1⟩ : ∃ y, xs[1]? = some y := ⟨_, List.getElem?_eq_getElem (by rw [hxl]; decide)⟩
    obtain ⟨x2, e2⟩ : ∃ y, xs[2]? = some y := ⟨_, List.getElem?_eq_getElem (by rw [hxl]; decide)⟩
    have r0 := hf 0 _ rfl
    have q0 : DataW.trod enc Tryd.prog W base sp true m 3 (([u0, u1, u2].drop 0).take (Tryd.prog.cellsOf 3)) = xs[0]? := r0
    rw [qcells3, e0] at q0
    have r1 := hf 1 _ rfl
    have q1 : DataW.trod enc Tryd.prog W base sp true m 3 (([u0, u1, u2].drop 1).take (Tryd.prog.cellsOf 3)) = xs[1]? := r1
    rw [qcells3, e1] at q1
    have r2 := hf 2 _ rfl
    have q2 : DataW.trod enc Tryd.prog W base sp true m 3 (([u0, u1, u2].drop 2).take (Tryd.prog.cellsOf 3)) = xs[2]? := r2
    rw [qcells3, e2] at q2
    obtain ⟨p, hp, _⟩ := DataW.trod_int Tryd.underlying3 q0
    obtain ⟨f, hp1, _⟩ := DataW.trod_int Tryd.underlying3 q1
    obtain ⟨l, hp2, _⟩ := DataW.trod_int Tryd.underlying3 q2
    simp at hp hp1 hp2
    subst hp hp1 hp2
    exact ⟨p, f, l, (hcell 0 (by omega)).trans rfl, (hcell 1 (by omega)).trans rfl, (hcell 2 (by omega)).trans rfl⟩
set_option maxRecDepth 100000 in
theorem span_cells {n : Nat} {b : Addr} {x : DataW H × List MemPlace} (hc : (W.cells? base b 2).bind (DataW.trod enc Tryd.prog W base sp true n 49) = some x) :
    ∃ p f, W.cell? (b.add 0) = some (.int .i64 p) ∧ W.cell? (b.add 1) = some (.int .i64 f) := by
  rw [Option.bind_eq_some_iff] at hc
  obtain ⟨cs, h1, h2⟩ := hc
  obtain ⟨_, hl, hcell⟩ := World.cells?_some h1
  obtain ⟨xs, m, _, _, _, hxl, hf⟩ := DataW.trod_struct Tryd.underlying49 h2
  match cs, hl with
  | [u0, u1], _ =>
    obtain ⟨x0, e0⟩ : ∃ y, xs[0]? = some y := ⟨_, List.getElem?_eq_getElem (by rw [hxl]; decide)⟩
    obtain ⟨x1, e1⟩ : ∃ y, xs[1]? = some y := ⟨_, List.getElem?_eq_getElem (by rw [hxl]; decide)⟩
    have r0 := hf 0 _ rfl
    have q0 : DataW.trod enc Tryd.prog W base sp true m 3 (([u0, u1].drop 0).take (Tryd.prog.cellsOf 3)) = xs[0]? := r0
    rw [qcells3, e0] at q0
    have r1 := hf 1 _ rfl
    have q1 : DataW.trod enc Tryd.prog W base sp true m 3 (([u0, u1].drop 1).take (Tryd.prog.cellsOf 3)) = xs[1]? := r1
    rw [qcells3, e1] at q1
    obtain ⟨p, hp, _⟩ := DataW.trod_int Tryd.underlying3 q0
    obtain ⟨f, hp1, _⟩ := DataW.trod_int Tryd.underlying3 q1
    simp at hp hp1
    subst hp hp1
    exact ⟨p, f, (hcell 0 (by omega)).trans rfl, (hcell 1 (by omega)).trans rfl⟩

theorem turns_open {fuel : Nat} {v : Value} {y : DataW H × List MemPlace} (h : DataW.trod enc Tryd.prog W base sp true fuel 22 [v] = some y) :
    ∃ A n c, v = .slice A n c ∧ (n ≤ 1000000000000 → ∃ ts : List T3, RT W.heap.size v ts W) := by
  rcases DataW.trod_slice Tryd.underlying22 h with ⟨e, _⟩ | ⟨a, len, cap, elems, rest, m, _, e, _, _, _, _, hlen, hel, _, _⟩
  · injection e with e _
    exact ⟨none, 0, 0, e, fun _ => ⟨[], none, 0, e, by simp, fun h => by simp at h⟩⟩
  · injection e with e _
    refine ⟨some a, len, cap, e, fun hl => ?_⟩
    have each : ∀ i, ∃ t : T3, i < len → W.cell? ((a.add (i * 3)).add 0) = some (.int .i64 t.1) ∧ W.cell? ((a.add (i * 3)).add 1) = some (.int .i64 t.2.1) ∧ W.cell? ((a.add (i * 3)).add 2) = some (.int .i64 t.2.2) := fun i => by
      by_cases hi : i < len
      · have q := hel i hi
        rw [qcellsT, List.getElem?_eq_getElem (by omega)] at q
        obtain ⟨p, f, l, c0, c1, c2⟩ := turn_cells q
        exact ⟨(p, f, l), fun _ => ⟨c0, c1, c2⟩⟩
      · exact ⟨(0, 0, 0), fun h => absurd h hi⟩
    obtain ⟨g, hg⟩ := Classical.axiomOfChoice each
    refine ⟨(List.range len).map g, some a, cap, by rw [e]; simp, by simpa using hl, fun hp => ?_⟩
    have hp' : 0 < len := by simpa using hp
    have h0 := (hg 0 hp').1
    have hcell0 : W.cell? a = some (.int .i64 (g 0).1) := by simpa [Addr.add] using h0
    have hsp : a.spot = none := spot_none hcell0
    have hadd := add_plain hsp
    obtain ⟨b, o, s⟩ := a
    simp only at hsp
    subst hsp
    refine ⟨b, o, rfl, World.block_lt_of_cell? _ _ hcell0, fun k p f l hk => ?_⟩
    have hk' : k < len ∧ g k = (p, f, l) := by
      rw [List.getElem?_map] at hk
      by_cases hkl : k < len
      · rw [List.getElem?_range hkl] at hk
        simp at hk
        exact ⟨hkl, hk⟩
      · rw [List.getElem?_eq_none (by simp; omega)] at hk
        cases hk
    obtain ⟨c0, c1, c2⟩ := hg k hk'.1
    rw [hk'.2] at c0 c1 c2
    rw [hadd] at c0 c1 c2
    exact ⟨c0, c1, c2⟩
theorem spans_open {fuel : Nat} {v : Value} {y : DataW H × List MemPlace} (h : DataW.trod enc Tryd.prog W base sp true fuel 23 [v] = some y) :
    ∃ A n c, v = .slice A n c ∧ (n ≤ 1000000000000 → ∃ ss : List S2, RS W.heap.size v ss W) := by
  rcases DataW.trod_slice Tryd.underlying23 h with ⟨e, _⟩ | ⟨a, len, cap, elems, rest, m, _, e, _, _, _, _, hlen, hel, _, _⟩
  · injection e with e _
    exact ⟨none, 0, 0, e, fun _ => ⟨[], none, 0, e, by simp, fun h => by simp at h⟩⟩
  · injection e with e _
    refine ⟨some a, len, cap, e, fun hl => ?_⟩
    have each : ∀ i, ∃ t : S2, i < len → W.cell? ((a.add (i * 2)).add 0) = some (.int .i64 t.1) ∧ W.cell? ((a.add (i * 2)).add 1) = some (.int .i64 t.2) := fun i => by
      by_cases hi : i < len
      · have q := hel i hi
        rw [qcellsS, List.getElem?_eq_getElem (by omega)] at q
        obtain ⟨p, f, c0, c1⟩ := span_cells q
        exact ⟨(p, f), fun _ => ⟨c0, c1⟩⟩
      · exact ⟨(0, 0), fun h => absurd h hi⟩
    obtain ⟨g, hg⟩ := Classical.axiomOfChoice each
    refine ⟨(List.range len).map g, some a, cap, by rw [e]; simp, by simpa using hl, fun hp => ?_⟩
    have hp' : 0 < len := by simpa using hp
    have h0 := (hg 0 hp').1
    have hcell0 : W.cell? a = some (.int .i64 (g 0).1) := by simpa [Addr.add] using h0
    have hsp : a.spot = none := spot_none hcell0
    have hadd := add_plain hsp
    obtain ⟨b, o, s⟩ := a
    simp only at hsp
    subst hsp
    refine ⟨b, o, rfl, World.block_lt_of_cell? _ _ hcell0, fun k p f hk => ?_⟩
    have hk' : k < len ∧ g k = (p, f) := by
      rw [List.getElem?_map] at hk
      by_cases hkl : k < len
      · rw [List.getElem?_range hkl] at hk
        simp at hk
        exact ⟨hkl, hk⟩
      · rw [List.getElem?_eq_none (by simp; omega)] at hk
        cases hk
    obtain ⟨c0, c1⟩ := hg k hk'.1
    rw [hk'.2] at c0 c1
    rw [hadd] at c0 c1
    exact ⟨c0, c1⟩
set_option maxRecDepth 100000 in
/-- A set that came in: two slices; where they are no longer than memory can be walked, they read as lists. -/
theorem set_open {b0 : Nat} {v : Value} {d : DataW H} {p : List MemPlace} (hv : Value.okWide Tryd.prog W .any b0 25 v) (h : DataW.Trod enc Tryd.prog W base sp true 25 v d p) :
    ∃ A n c A' n' c', v = .agg #[.slice A n c, .slice A' n' c'] ∧ (n ≤ 1000000000000 → n' ≤ 1000000000000 → ∃ ts ss, RM W.heap.size v ts ss W) := by
  obtain ⟨v0, v1, y0, y1, m, rfl, _, _, h0, h1⟩ := open_agg2 Tryd.underlying25 (by kernel_rfl) qcellsM hv h
  obtain ⟨A, n, c, rfl, k0⟩ := turns_open h0
  obtain ⟨A', n', c', rfl, k1⟩ := spans_open h1
  refine ⟨A, n, c, A', n', c', rfl, fun l0 l1 => ?_⟩
  obtain ⟨ts, r0⟩ := k0 l0
  obtain ⟨ss, r1⟩ := k1 l1
  exact ⟨ts, ss, A, n, c, A', n', c', rfl, r0, r1⟩
end

section
variable {H : Type} {enc : TypeId × Value → H}
theorem trodAll_below {P : Program} {W W' : World} {base : Nat} {sp : Nat → Bool} {held : Bool} (hB : Below W.heap.size W W') : ∀ {ts : List TypeId} {vs : List Value} {ds : List (DataW H)} {ps : List MemPlace},
    DataW.TrodAll enc P W base sp held ts vs ds ps → DataW.TrodAll enc P W' base sp held ts vs ds ps
  | [], [], [], _, h => h
  | _ :: _, _ :: _, _ :: _, _, ⟨p, q, ⟨n, h1⟩, h2, e⟩ => ⟨p, q, ⟨n, DataW.trod_carry n _ _ _ h1 (fun x hx => hB.same (DataW.trod_lt n _ _ _ h1 x hx))⟩, trodAll_below hB h2, e⟩
/-- Behind a call that leaves what was there, the arguments read as they did. -/
theorem args_again {W W' : World} (hB : Below W.heap.size W W') {ts : List TypeId} {vs : List Value} {ds : List (DataW H)} {ps : List MemPlace} (ht : ∀ t ∈ ts, t < Tryd.prog.types.size)
    (h : DataW.TrodAll enc Tryd.prog W 0 (fun _ => true) true ts vs ds ps) : DataW.TrodAll enc Tryd.prog W' 0 (fun b => decide (b < W.heap.size)) true ts vs ds ps :=
  by
  have hl : ∀ p ∈ ps, p.block < W.heap.size := fun p hp => DataW.TrodAll.lt h p hp
  have hs : ∀ p ∈ ps, (fun b => decide (b < W.heap.size)) p.block = true := fun p hp => decide_eq_true (hl p hp)
  exact DataW.TrodAll.respare qkids qfull ht (trodAll_below hB h) hs
end
end Go.Proofs.YtlhgpeelenelbaaDoor

/- The law TurnTexts holds for every input, given that sanity answers true: the row, and its card. -/
namespace Go.Proofs.YtlhgpeelenelbaaDoor
open Go.ChangeShapes Go.WideShapes Go.ChangeAt Go.RowKit Go.Joins

namespace turnTexts
def wargs : Array Value := #[.agg #[.slice none 0 0, .slice none 0 0], .string ⟨#[]⟩]
theorem laid_met (os : Os) : laidMet Tryd.prog Rows.turnTextsRow.laid ((laidWorld os).forCall (fun _ _ => 0) ⟨#[], wargs, []⟩).memory :=
  laidMet_of_run' 8 (by kernel_rfl) (by kernel_rfl)
theorem reads (os : Os) {H : Type} (enc : TypeId × Value → H) : ∃ places, DataW.whole enc Tryd.prog ((laidWorld os).forCall (fun _ _ => 0) ⟨#[], wargs, []⟩).memory Tryd.f9.params.toList Rows.turnTextsSpec.vars false wargs.toList 8 = some ([.agg [.nil, .nil], .lit (.string [])], [], places) :=
  ⟨[], by kernel_rfl⟩

theorem tab_of_laid {W : World} (h : laidMet Tryd.prog Rows.turnTextsRow.laid W) : Tab W := by
  obtain ⟨ps, hv, -⟩ := h
  obtain ⟨_, _, _, _, _, _, -, -, -, -, hv, -⟩ := hv
  obtain ⟨_, _, _, _, _, _, -, -, -, -, hv, -⟩ := hv
  obtain ⟨g, t, cs, fuel, p, q, hg, ht, hvar, hd, -, -⟩ := hv
  obtain rfl := Option.some.inj (tab_named.symm.trans hg)
  obtain rfl := Option.some.inj ((show (Tryd.prog.globals[0]?).map (·.type) = some 171 by kernel_rfl).symm.trans ht)
  have e := Lib.cells_of_tab (k := .u64) (zs := Lib.pow10Tab) Tryd.underlying171 Tryd.underlying164 (by kernel_rfl) (by kernel_rfl) hd
  show W.var? Tryd.prog "internal/strconv.uint64pow10" = _
  rw [hvar, ← e]
set_option maxHeartbeats 1000000 in
set_option maxRecDepth 100000 in
/-- What the walk gives, for every argument. -/
theorem contract (hsan : ∀ W, Calls Tryd.prog 16 #[] W fun e w' => e = .returned (.bool true) ∧ Below W.heap.size W w') (H : Type) (enc : TypeId × Value → H) (W : World) (base : Nat) (args : Array Value) (ds gs : List (DataW H)) (before : List MemPlace)
    (hval : ∀ (j : Nat) t v, Tryd.f9.params[j]? = some t → args[j]? = some v → Value.okWide Tryd.prog W .any base t v)
    (hW : DataW.Whole enc Tryd.prog Tryd.f9.params.toList Rows.turnTextsSpec.vars false W args.toList ds gs before) (hL : laidMet Tryd.prog Rows.turnTextsRow.laid W) :
    Calls Tryd.prog 9 args W fun e W' => ∃ v, e = .returned v ∧ Rows.turnTextsSpec.post enc Tryd.prog Tryd.f9 false true false false W args v W' := by
  have hW' := hW
  obtain ⟨p, q, hA0, hV, rfl, hfz, hnd⟩ := hW
  have hA : DataW.TrodAll enc Tryd.prog W 0 (fun _ => true) true Tryd.f9.params.toList args.toList ds p := hA0
  have hAk := hA
  have hsize : ∀ t ∈ Tryd.f9.params.toList, t < Tryd.prog.types.size := by rw [Tryd.params9]; decide +kernel
  rw [Tryd.params9] at hA hval
  obtain ⟨v0, vs0, d0, ds0, p0, q0, hargs, rfl, rfl, h0, r0⟩ := trodAll_cons hA
  obtain ⟨v1, vs1, d1, ds1, p1, q1, rfl, rfl, rfl, h1, r1⟩ := trodAll_cons r0
  obtain ⟨rfl, rfl, rfl⟩ := trodAll_nil r1
  obtain rfl : args = #[v0, v1] := by cases args; simp_all
  obtain ⟨rfl, rfl⟩ := trodVars_none hV
  obtain ⟨A, k, c, A', k', c', rfl, hopen⟩ := set_open (hval 0 25 v0 rfl rfl) h0
  obtain ⟨s1, rfl⟩ := okWide_string Tryd.underlying9 (hval 1 9 v1 rfl rfl)
  have hcall := turnTexts_calls hsan A k c A' k' c' s1 W hopen (tab_of_laid hL)
  refine hcall.mono fun e W' ⟨he, hb⟩ => ?_
  subst he
  refine ⟨_, rfl, _, _, _, [], _, [], hW', ?_, args_again hb hsize hAk, ?_, hb.frame _, fun h => by cases h⟩
  · exact trodAll_cons_mk (shut_bool Tryd.underlying4 _) trodAll_mk0
  · rfl

set_option maxRecDepth 100000 in
theorem lifted (hsan : ∀ W, Calls Tryd.prog 16 #[] W fun e w' => e = .returned (.bool true) ∧ Below W.heap.size W w') (os : Os) (started : os.Started) (H : Type) (enc : TypeId × Value → H) (F : Stop.Interp) :
    ReturnsInHanded {} Tryd.checked os 9 .any ((OpenSpec.ofChange Rows.turnTextsSpec).preRow enc Tryd.prog Tryd.f9 Rows.turnTextsRow.domain false Rows.turnTextsRow.laid) (((OpenSpec.ofChange Rows.turnTextsSpec).at F).post enc Tryd.prog Tryd.f9 false true false false) := by
  obtain ⟨places, hx⟩ := reads os enc
  refine returnsInHanded_of_row (C := Tryd.checked) (s := OpenSpec.ofChange Rows.turnTextsSpec) own started (by kernel_rfl) Tryd.func9
    (witness_row_at (enc := enc) (C := Tryd.checked) false (laidWorld os) wargs rfl (by kernel_rfl) (by kernel_rfl) (by kernel_rfl)
      (OpenSpec.preRow_of_cond 8 hx (by kernel_rfl) (fun k hk => by cases hk) (by kernel_rfl) (laid_met os))) ?_
  intro W base args ds gs before hval hW _ _ _ hL _ _
  exact contract hsan H enc W base args ds gs before hval hW hL

theorem said (hsan : ∀ W, Calls Tryd.prog 16 #[] W fun e w' => e = .returned (.bool true) ∧ Below W.heap.size W w') : Rows.TurnTextsSaid :=
  OpenClaim.holds_of_cond 9 Tryd.f9 rfl rfl rfl rfl rfl rfl rfl ⟨rfl, rfl, rfl, rfl, rfl⟩ rfl rfl rfl rfl rfl (by kernel_rfl) Tryd.func9 (by kernel_rfl)
    (of_decide_eq_true (by kernel_rfl)) (by unfold Func.isWrapper; first | (rw [if_pos (by decide +kernel)]; kernel_rfl) | (rw [if_neg (by decide +kernel)]; exact ⟨rfl, rfl⟩))
    (fun os started H enc _ F => by rw [OpenClaim.pre_eq_preRow]; exact lifted hsan os started H enc F)

/-- No parameter wants a stand-in; the program's own looks are off: what the card asks. -/
theorem plain (f : FuncId) (fn : Func) (hf : Tryd.pinned.checked.prog.funcNamed "drowner/drownerlaw01.TurnTexts" = some f) (hfn : Tryd.pinned.checked.prog.funcs[f]? = some fn) :
    false = Tryd.pinned.checked.prog.looks [] ∧ ∀ (j : Nat) t, fn.params[j]? = some t → Tryd.pinned.checked.prog.wantsStandIn t = false := by
  obtain rfl : f = 9 := Option.some.inj ((show Tryd.prog.funcNamed "drowner/drownerlaw01.TurnTexts" = some 9 by kernel_rfl).symm.trans hf) |>.symm
  obtain rfl : fn = Tryd.f9 := (Option.some.inj (Tryd.func9.symm.trans hfn)).symm
  refine ⟨by kernel_rfl, fun j t ht => ?_⟩
  rw [Tryd.params9] at ht
  have hm := Array.mem_of_getElem? ht
  simp at hm
  rcases hm with rfl | rfl
  · exact (show Tryd.prog.wantsStandIn 25 = false by kernel_rfl)
  · exact (show Tryd.prog.wantsStandIn 9 = false by kernel_rfl)

theorem card (hsan : ∀ W, Calls Tryd.prog 16 #[] W fun e w' => e = .returned (.bool true) ∧ Below W.heap.size W w') : Rows.TurnTextsCardSaid :=
  Claim7.holds_tied_plain_at .later [] _ _ _ _ (said hsan) (fun _ h => by cases h) (by kernel_rfl) (fun _ h => by cases h) turnTexts_row_tie rfl ⟨rfl, rfl⟩ (by kernel_rfl) rfl plain (by kernel_rfl)
end turnTexts
end Go.Proofs.YtlhgpeelenelbaaDoor

/- The law TurnTexts holds for every input: a set and a text. No condition beside the statement's own. -/
namespace Go.Proofs.YtlhgpeelenelbaaDoor
theorem turnTexts_holds : Rows.TurnTextsCardSaid := turnTexts.card sanity_any
end Go.Proofs.YtlhgpeelenelbaaDoor
