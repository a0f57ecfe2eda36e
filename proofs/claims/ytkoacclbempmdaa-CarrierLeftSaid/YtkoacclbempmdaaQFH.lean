/- The law CarrierLeft holds for every input: for all works of at most 6 carriers and 14 outlets, or too many, water, and a carrier, in the works without it as much flows through all outlets that are left as before. No condition beside the row's own. -/
import Derived.Test.YtkoacclbempmdaaQFA
import Derived.Test.YtkoacclbempmdaaGZL
import Derived.Test.YtkoacclbempmdaaQFG
namespace Go.Proofs.Ytkoacclbempmdaa
open Go.ChangeShapes Go.WideShapes Go.ChangeAt Go.RowKit Go.Joins

section
variable {H : Type} {enc : TypeId × Value → H} {W : World} {base : Nat} {sp : Nat → Bool}
theorem slice_cap {t e : TypeId} {fuel : Nat} {v : Value} {y : DataW H × List MemPlace} (hu : Try.prog.underlying t = some (.slice e)) (h : DataW.trod enc Try.prog W base sp true fuel t [v] = some y) : ∀ A n c, v = .slice A n c → n ≤ c := by
 intro A n c hv
 rcases DataW.trod_slice hu h with ⟨e1, _⟩ | ⟨a, len, cap, elems, rest, m, _, e1, ey, _, hlc, hcm, hlen, hel, _, _⟩
 ·injection e1 with e1 _
  rw [hv] at e1
  cases e1
  exact Nat.le_refl _
 ·injection e1 with e1 _
  rw [hv] at e1
  cases e1
  exact hlc
set_option maxRecDepth 100000 in
set_option maxHeartbeats 1000000 in
theorem outlets_open2 {fuel : Nat} {v : Value} {y : DataW H × List MemPlace} (h : DataW.trod enc Try.prog W base sp true fuel 36 [v] = some y) (hw : WB 36 y.1) : ∃ l : List Ou, RO W.heap.size v l W ∧ ∀ o ∈ l, o.ps.length ≤ o.pc := by
 obtain ⟨A, c, l, e, hf, hr⟩ := row_open (α := Ou) Try.underlying36 qcellsO (by decide) pbO (fun x b o => OuAt W.heap.size b o x W ∧ x.ps.length ≤ x.pc) (fun fuel a x hwx hx => by
  obtain ⟨cs, hl, hc, h2⟩ := cells_of hx
  obtain ⟨xs, m, _, ex, _, hxl, hf⟩ := DataW.trod_struct Try.underlying42 h2
  match cs, hl with
  | [u0, u1, u2, u3, u4, u5, u6], _ =>
   obtain ⟨x0, e0⟩ : ∃ y, xs[0]? = some y := ⟨_, List.getElem?_eq_getElem (by rw [hxl]; decide)⟩
   obtain ⟨x1, e1⟩ : ∃ y, xs[1]? = some y := ⟨_, List.getElem?_eq_getElem (by rw [hxl]; decide)⟩
   obtain ⟨x2, e2⟩ : ∃ y, xs[2]? = some y := ⟨_, List.getElem?_eq_getElem (by rw [hxl]; decide)⟩
   obtain ⟨x3, e3⟩ : ∃ y, xs[3]? = some y := ⟨_, List.getElem?_eq_getElem (by rw [hxl]; decide)⟩
   obtain ⟨x4, e4⟩ : ∃ y, xs[4]? = some y := ⟨_, List.getElem?_eq_getElem (by rw [hxl]; decide)⟩
   have q0 : DataW.trod enc Try.prog W base sp true m 3 (([u0, u1, u2, u3, u4, u5, u6].drop 0).take (Try.prog.cellsOf 3)) = xs[0]? := hf 0 _ rfl
   have q1 : DataW.trod enc Try.prog W base sp true m 3 (([u0, u1, u2, u3, u4, u5, u6].drop 1).take (Try.prog.cellsOf 3)) = xs[1]? := hf 1 _ rfl
   have q2 : DataW.trod enc Try.prog W base sp true m 25 (([u0, u1, u2, u3, u4, u5, u6].drop 2).take (Try.prog.cellsOf 25)) = xs[2]? := hf 2 _ rfl
   have q3 : DataW.trod enc Try.prog W base sp true m 40 (([u0, u1, u2, u3, u4, u5, u6].drop 3).take (Try.prog.cellsOf 40)) = xs[3]? := hf 3 _ rfl
   have q4 : DataW.trod enc Try.prog W base sp true m 40 (([u0, u1, u2, u3, u4, u5, u6].drop 5).take (Try.prog.cellsOf 40)) = xs[4]? := hf 4 _ rfl
   rw [qcells3, e0] at q0
   rw [qcells3, e1] at q1
   rw [qcellsI, e2] at q2
   rw [qcellsS, e3] at q3
   rw [qcellsS, e4] at q4
   obtain ⟨i0, p0, _⟩ := DataW.trod_int Try.underlying3 q0
   obtain ⟨i1, p1, _⟩ := DataW.trod_int Try.underlying3 q1
   simp at p0 p1
   subst p0 p1
   have hw2 : WB 25 x2.1 := by
    rw [ex] at hwx
    exact hwx.agg Try.underlying42 2 _ x2.1 rfl (by rw [List.getElem?_map, e2]; rfl)
   have hcap := slice_cap Try.underlying25 q2
   obtain ⟨Ap, cp, ps, ep, hri⟩ := ints_open q2 hw2
   obtain ⟨k0, k1, r3, r4⟩ := span_of q3
   obtain ⟨s0, s1, r5, r6⟩ := span_of q4
   subst r3 r4 r5 r6 ep
   have h0 := hc 0 (by decide)
   rw [Addr.add_zero'] at h0
   refine ⟨⟨i0, i1, Ap, cp, ps, k0, k1, s0, s1⟩, ⟨_, h0.trans rfl⟩, fun hs => ?_⟩
   have had := add_plain hs
   obtain ⟨b, o, s⟩ := a
   simp only at hs
   subst hs
   have hcell : ∀ k u, [Value.int .i64 i0, .int .i64 i1, .slice Ap ps.length cp, .int .i64 k0, .int .i64 k1, .int .i64 s0, .int .i64 s1][k]? = some u → k < 7 → W.cell? ⟨b, o + k, none⟩ = some u := fun k u hu hk => by
    have := hc k hk
    rw [had] at this
    exact this.trans hu
   exact ⟨⟨h0.trans rfl, hcell 1 _ rfl (by decide), hcell 2 _ rfl (by decide), hri, hcell 3 _ rfl (by decide), hcell 4 _ rfl (by decide), hcell 5 _ rfl (by decide), hcell 6 _ rfl (by decide)⟩, hcap _ _ _ rfl⟩) h hw
 refine ⟨l, ⟨A, c, e, hf, fun hp => ?_⟩, fun o ho => ?_⟩
 ·obtain ⟨b, o, e1, e2, hh⟩ := hr hp
  exact ⟨b, o, e1, e2, fun k x hk => (hh k x hk).1⟩
 ·obtain ⟨k, hk⟩ := List.mem_iff_getElem?.1 ho
  obtain ⟨b, o2, -, -, hh⟩ := hr (by have := (List.getElem?_eq_some_iff.1 hk).1; omega)
  exact (hh k o hk).2
set_option maxRecDepth 100000 in
set_option maxHeartbeats 1000000 in
theorem carriers_open2 {fuel : Nat} {v : Value} {y : DataW H × List MemPlace} (h : DataW.trod enc Try.prog W base sp true fuel 22 [v] = some y) (hw : WB 22 y.1) : ∃ ws : Wk, RK W.heap.size v ws W ∧ Room v ws W := by
 obtain ⟨A, c, l, e, hf, hr⟩ := row_open (α := List Ou) Try.underlying22 qcellsC (by decide) pbC (fun x b o => ∃ u, W.cell? ⟨b, o, none⟩ = some u ∧ RO W.heap.size u x W ∧ (∀ A n c, u = .slice A n c → n ≤ c) ∧ ∀ o ∈ x, o.ps.length ≤ o.pc) (fun fuel a x hwx hx => by
  obtain ⟨cs, hl, hc, h2⟩ := cells_of hx
  obtain ⟨xs, m, _, ex, _, hxl, hf⟩ := DataW.trod_struct Try.underlying38 h2
  match cs, hl with
  | [u0], _ =>
   obtain ⟨x0, e0⟩ : ∃ y, xs[0]? = some y := ⟨_, List.getElem?_eq_getElem (by rw [hxl]; decide)⟩
   have q0 : DataW.trod enc Try.prog W base sp true m 36 (([u0].drop 0).take (Try.prog.cellsOf 36)) = xs[0]? := hf 0 _ rfl
   rw [qcellsLO, e0] at q0
   have hw2 : WB 36 x0.1 := by
    rw [ex] at hwx
    exact hwx.agg Try.underlying38 0 _ x0.1 rfl (by rw [List.getElem?_map, e0]; rfl)
   have hcap := slice_cap Try.underlying36 q0
   obtain ⟨os, hos, hoc⟩ := outlets_open2 q0 hw2
   have h0 := hc 0 (by decide)
   rw [Addr.add_zero'] at h0
   refine ⟨os, ⟨_, h0.trans rfl⟩, fun hs => ?_⟩
   obtain ⟨b, o, s⟩ := a
   simp only at hs
   subst hs
   exact ⟨u0, h0.trans rfl, hos, hcap, hoc⟩) h hw
 refine ⟨l, ⟨A, c, e, hf, fun hp => ?_⟩, fun b o n c2 ev k os hk A' n' c' hcell => ?_, fun os hos => ?_⟩
 ·obtain ⟨b, o, e1, e2, hh⟩ := hr hp
  exact ⟨b, o, e1, e2, fun k n hk => by
   obtain ⟨u, h1, h2, -⟩ := hh k n hk
   rw [Nat.mul_one] at h1
   exact ⟨u, h1, h2⟩⟩
 ·obtain ⟨b1, o1, e1, e2, hh⟩ := hr (by have := (List.getElem?_eq_some_iff.1 hk).1; omega)
  obtain ⟨u, h1, -, h3, -⟩ := hh k os hk
  rw [e] at ev
  simp only [Value.slice.injEq] at ev
  rw [e1] at ev
  simp only [Option.some.injEq, Addr.mk.injEq, and_true] at ev
  obtain ⟨⟨rfl, rfl⟩, -, -⟩ := ev
  rw [Nat.mul_one, hcell] at h1
  cases h1
  exact h3 _ _ _ rfl
 ·obtain ⟨k, hk⟩ := List.mem_iff_getElem?.1 hos
  obtain ⟨b1, o1, e1, e2, hh⟩ := hr (by have := (List.getElem?_eq_some_iff.1 hk).1; omega)
  exact (hh k os hk).choose_spec.2.2.2
set_option maxRecDepth 100000 in
theorem works_open2 {b0 : Nat} {v : Value} {d : DataW H} {p : List MemPlace} (hv : Value.okWide Try.prog W .any b0 24 v) (h : DataW.Trod enc Try.prog W base sp true 24 v d p) (hw : WB 24 d) : ∃ (A : Option Addr) (c : Nat) (ws : Wk), v = .agg #[.slice A ws.length c] ∧ RK W.heap.size (.slice A ws.length c) ws W ∧ Room (.slice A ws.length c) ws W := by
 obtain ⟨cs, rfl, hsz⟩ := okWide_struct Try.underlying24 hv
 rw [qcellsW] at hsz
 obtain ⟨c0, rfl⟩ : ∃ c0, cs = #[c0] := Array.size_eq_one_iff.1 hsz
 obtain ⟨fuel, hf⟩ := h
 obtain ⟨xs, m, _, ex, _, hxl, hf⟩ := DataW.trod_struct Try.underlying24 hf
 obtain ⟨x0, e0⟩ : ∃ y, xs[0]? = some y := ⟨_, List.getElem?_eq_getElem (by rw [hxl]; decide)⟩
 have q0 : DataW.trod enc Try.prog W base sp true m 22 (([c0].drop 0).take (Try.prog.cellsOf 22)) = xs[0]? := hf 0 _ rfl
 rw [qcellsLC, e0] at q0
 simp only [Prod.mk.injEq] at ex
 have hw2 : WB 22 x0.1 := by
  rw [ex.1] at hw
  exact hw.agg Try.underlying24 0 _ x0.1 rfl (by rw [List.getElem?_map, e0]; rfl)
 obtain ⟨ws, hws, hrm⟩ := carriers_open2 q0 hw2
 obtain ⟨A, c, rfl⟩ := hws.slice
 exact ⟨A, c, ws, rfl, hws, hrm⟩
end
end Go.Proofs.Ytkoacclbempmdaa

/- The law CarrierLeft holds for every input: the row. -/
namespace Go.Proofs.Ytkoacclbempmdaa
open Go.ChangeShapes Go.WideShapes Go.ChangeAt Go.RowKit Go.Joins

namespace carrierLeft
def wargs : Array Value := #[.agg #[.slice none 0 0], .agg #[.slice none 0 0, .slice none 0 0, .slice none 0 0, .slice none 0 0], .int .u8 0]
theorem laid_met (os : Os) : laidMet Try.prog Rows.carrierLeftRow.laid ((World.holding Try.prog os ⟨#[], #[], []⟩).forCall (fun _ _ => 0) ⟨#[], wargs, []⟩).memory :=
 laidMet_of_run' 8 (by kernel_rfl) (by kernel_rfl)
theorem reads (os : Os) {H : Type} (enc : TypeId × Value → H) : ∃ places, DataW.whole enc Try.prog ((World.holding Try.prog os ⟨#[], #[], []⟩).forCall (fun _ _ => 0) ⟨#[], wargs, []⟩).memory Try.f8.params.toList Rows.carrierLeftSpec.vars false wargs.toList 8 = some ([.agg [.nil], .agg [.nil, .nil, .nil, .nil], .lit (.int .u8 0)], [], places) :=
 ⟨[], by kernel_rfl⟩

set_option maxHeartbeats 1000000 in
set_option maxRecDepth 100000 in
/-- What the walk gives, for every argument. -/
theorem contract (H : Type) (enc : TypeId × Value → H) (W : World) (base : Nat) (args : Array Value) (ds gs : List (DataW H)) (before : List MemPlace)
  (hval : ∀ (j : Nat) t v, Try.f8.params[j]? = some t → args[j]? = some v → Value.okWide Try.prog W .any base t v)
  (hW : DataW.Whole enc Try.prog Try.f8.params.toList Rows.carrierLeftSpec.vars false W args.toList ds gs before)
  (hwt : (DataW.weightsEach Try.prog (Try.f8.params.toList ++ DataSpec.varTypes Try.prog (OpenSpec.ofChange Rows.carrierLeftSpec).bare.plain) (ds ++ gs)).all (· ≤ reachBytes) = true) :
  Calls Try.prog 8 args W fun e W' => ∃ v, e = .returned v ∧ Rows.carrierLeftSpec.post enc Try.prog Try.f8 false true false false W args v W' := by
 have hW' := hW
 obtain ⟨p, q, hA0, hV, rfl, hfz, hnd⟩ := hW
 have hA : DataW.TrodAll enc Try.prog W 0 (fun _ => true) true Try.f8.params.toList args.toList ds p := hA0
 have hAk := hA
 have hsize : ∀ t ∈ Try.f8.params.toList, t < Try.prog.types.size := by rw [Try.params8]; decide +kernel
 have hwt' := hwt
 rw [Try.params8] at hA hval hwt'
 obtain ⟨v0, vs0, d0, ds0, p0, q0, hargs, rfl, rfl, h0, r0⟩ := trodAll_cons hA
 obtain ⟨v1, vs1, d1, ds1, p1, q1, rfl, rfl, rfl, h1, r1⟩ := trodAll_cons r0
 obtain ⟨v2, vs2, d2, ds2, p2, q2, rfl, rfl, rfl, h2, r2⟩ := trodAll_cons r1
 obtain ⟨rfl, rfl, rfl⟩ := trodAll_nil r2
 obtain rfl : args = #[v0, v1, v2] := by cases args; simp_all
 obtain ⟨rfl, rfl⟩ := trodVars_none hV
 obtain ⟨A, c, ws, rfl, hk, hrm⟩ := works_open2 (hval 0 24 v0 rfl rfl) h0 (WB.each _ _ hwt' 0 _ _ rfl rfl)
 obtain ⟨s1, hs1⟩ := water_open (hval 1 27 v1 rfl rfl) h1 (WB.each _ _ hwt' 1 _ _ rfl rfl)
 obtain ⟨n2, rfl, rfl, rfl, wn2⟩ := open_int Try.underlying5 (hval 2 5 v2 rfl rfl) h2
 have hu2 : 0 ≤ n2 ∧ n2 ≤ 255 := by
  have m0 : IntKind.u8.min = 0 := rfl
  have m1 : IntKind.u8.max = 255 := rfl
  have := wn2
  simp only [Lit.wf, m0, m1, Bool.and_eq_true, decide_eq_true_eq] at this
  exact this
 have hcall := left_law A c ws v1 s1 n2 W hk hrm hs1 hu2
 refine hcall.mono fun e W' ⟨he, hb⟩ => ?_
 subst he
 refine ⟨_, rfl, _, _, _, [], _, [], hW', ?_, args_again hb hsize hAk, ?_, hb.frame _, fun h => by cases h⟩
 ·exact trodAll_cons_mk (shut_bool Try.underlying4 _) trodAll_mk0
 ·rfl

set_option maxRecDepth 100000 in
theorem lifted (os : Os) (started : os.Started) (H : Type) (enc : TypeId × Value → H) (F : Stop.Interp) :
  ReturnsInHanded {} Try.checked os 8 .any ((OpenSpec.ofChange Rows.carrierLeftSpec).preRow enc Try.prog Try.f8 Rows.carrierLeftRow.domain false Rows.carrierLeftRow.laid) (((OpenSpec.ofChange Rows.carrierLeftSpec).at F).post enc Try.prog Try.f8 false true false false) := by
 obtain ⟨places, hx⟩ := reads os enc
 refine returnsInHanded_of_row (C := Try.checked) (s := OpenSpec.ofChange Rows.carrierLeftSpec) own started (by kernel_rfl) Try.func8
  (witness_row_at (enc := enc) (C := Try.checked) false (World.holding Try.prog os ⟨#[], #[], []⟩) wargs rfl (by kernel_rfl) (by kernel_rfl) (by kernel_rfl)
   (OpenSpec.preRow_of_cond 8 hx (by kernel_rfl) (fun k hk => by cases hk) (by kernel_rfl) (laid_met os))) ?_
 intro W base args ds gs before hval hW _ _ hwt hL _ _
 exact contract H enc W base args ds gs before hval hW hwt

theorem said : Rows.CarrierLeftSaid :=
 OpenClaim.holds_of_cond 8 Try.f8 rfl rfl rfl rfl rfl rfl rfl ⟨rfl, rfl, rfl, rfl, rfl⟩ rfl rfl rfl rfl rfl (by kernel_rfl) Try.func8 (by kernel_rfl)
  (of_decide_eq_true (by kernel_rfl)) (by unfold Func.isWrapper; first | (rw [if_pos (by decide +kernel)]; kernel_rfl) | (rw [if_neg (by decide +kernel)]; exact ⟨rfl, rfl⟩))
  (fun os started H enc _ F => by rw [OpenClaim.pre_eq_preRow]; exact lifted os started H enc F)
end carrierLeft
theorem carrierLeft_holds : Rows.CarrierLeftSaid := carrierLeft.said
end Go.Proofs.Ytkoacclbempmdaa
