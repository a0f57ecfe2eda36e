/- The law CarrierRuns holds for every input: for all works of at most 6 carriers and 14 outlets, or too many, at most 6 runs, and a cut, what a course gives is the sum of its two parts, and a run may be cut into two. No condition beside the row's own. -/
import Derived.Test.YtkoacclbempmdaaGZL
import Derived.Test.YtkoacclbempmdaaQEB
import Derived.Test.YtkoacclbempmdaaQEA
namespace Go.Proofs.Ytkoacclbempmdaa
open Go.ChangeShapes Go.WideShapes Go.ChangeAt Go.RowKit Go.Joins

namespace carrierRuns
def wargs : Array Value := #[.agg #[.slice none 0 0], .slice none 0 0, .int .u8 0, .int .u16 0]
theorem laid_met (os : Os) : laidMet Try.prog Rows.carrierRunsRow.laid ((World.holding Try.prog os ⟨#[], #[], []⟩).forCall (fun _ _ => 0) ⟨#[], wargs, []⟩).memory :=
 laidMet_of_run' 8 (by kernel_rfl) (by kernel_rfl)
theorem reads (os : Os) {H : Type} (enc : TypeId × Value → H) : ∃ places, DataW.whole enc Try.prog ((World.holding Try.prog os ⟨#[], #[], []⟩).forCall (fun _ _ => 0) ⟨#[], wargs, []⟩).memory Try.f7.params.toList Rows.carrierRunsSpec.vars false wargs.toList 8 = some ([.agg [.nil], .nil, .lit (.int .u8 0), .lit (.int .u16 0)], [], places) :=
 ⟨[], by kernel_rfl⟩

set_option maxHeartbeats 1000000 in
set_option maxRecDepth 100000 in
/-- What the walk gives, for every argument. -/
theorem contract (H : Type) (enc : TypeId × Value → H) (W : World) (base : Nat) (args : Array Value) (ds gs : List (DataW H)) (before : List MemPlace)
  (hval : ∀ (j : Nat) t v, Try.f7.params[j]? = some t → args[j]? = some v → Value.okWide Try.prog W .any base t v)
  (hW : DataW.Whole enc Try.prog Try.f7.params.toList Rows.carrierRunsSpec.vars false W args.toList ds gs before)
  (hwt : (DataW.weightsEach Try.prog (Try.f7.params.toList ++ DataSpec.varTypes Try.prog (OpenSpec.ofChange Rows.carrierRunsSpec).bare.plain) (ds ++ gs)).all (· ≤ reachBytes) = true) :
  Calls Try.prog 7 args W fun e W' => ∃ v, e = .returned v ∧ Rows.carrierRunsSpec.post enc Try.prog Try.f7 false true false false W args v W' := by
 have hW' := hW
 obtain ⟨p, q, hA0, hV, rfl, hfz, hnd⟩ := hW
 have hA : DataW.TrodAll enc Try.prog W 0 (fun _ => true) true Try.f7.params.toList args.toList ds p := hA0
 have hAk := hA
 have hsize : ∀ t ∈ Try.f7.params.toList, t < Try.prog.types.size := by rw [Try.params7]; decide +kernel
 have hwt' := hwt
 rw [Try.params7] at hA hval hwt'
 obtain ⟨v0, vs0, d0, ds0, p0, q0, hargs, rfl, rfl, h0, r0⟩ := trodAll_cons hA
 obtain ⟨v1, vs1, d1, ds1, p1, q1, rfl, rfl, rfl, h1, r1⟩ := trodAll_cons r0
 obtain ⟨v2, vs2, d2, ds2, p2, q2, rfl, rfl, rfl, h2, r2⟩ := trodAll_cons r1
 obtain ⟨v3, vs3, d3, ds3, p3, q3, rfl, rfl, rfl, h3, r3⟩ := trodAll_cons r2
 obtain ⟨rfl, rfl, rfl⟩ := trodAll_nil r3
 obtain rfl : args = #[v0, v1, v2, v3] := by cases args; simp_all
 obtain ⟨rfl, rfl⟩ := trodVars_none hV
 obtain ⟨A, c, ws, rfl, hk⟩ := works_open (hval 0 24 v0 rfl rfl) h0 (WB.each _ _ hwt' 0 _ _ rfl rfl)
 obtain ⟨s1, hs1⟩ := runs_open (hval 1 74 v1 rfl rfl) h1 (WB.each _ _ hwt' 1 _ _ rfl rfl)
 obtain ⟨AL, cl, rfl, -, -⟩ := id hs1
 have hcap : s1.length ≤ cl := okWide_cap Try.underlying74 (hval 1 74 _ rfl rfl)
 obtain ⟨n2, rfl, rfl, rfl, wn2⟩ := open_int Try.underlying5 (hval 2 5 v2 rfl rfl) h2
 have hu2 : 0 ≤ n2 ∧ n2 ≤ 255 := by
  have m0 : IntKind.u8.min = 0 := rfl
  have m1 : IntKind.u8.max = 255 := rfl
  have := wn2
  simp only [Lit.wf, m0, m1, Bool.and_eq_true, decide_eq_true_eq] at this
  exact this
 obtain ⟨n3, rfl, rfl, rfl, wn3⟩ := open_int Try.underlying59 (hval 3 59 v3 rfl rfl) h3
 have hu3 : 0 ≤ n3 ∧ n3 ≤ 65535 := by
  have m0 : IntKind.u16.min = 0 := rfl
  have m1 : IntKind.u16.max = 65535 := rfl
  have := wn3
  simp only [Lit.wf, m0, m1, Bool.and_eq_true, decide_eq_true_eq] at this
  exact this
 have hcall := runs_law A c AL cl ws s1 n2 n3 W hk hs1 hcap hu2 hu3
 refine hcall.mono fun e W' ⟨he, hb⟩ => ?_
 subst he
 refine ⟨_, rfl, _, _, _, [], _, [], hW', ?_, args_again hb hsize hAk, ?_, hb.frame _, fun h => by cases h⟩
 ·exact trodAll_cons_mk (shut_bool Try.underlying4 _) trodAll_mk0
 ·rfl

set_option maxRecDepth 100000 in
theorem lifted (os : Os) (started : os.Started) (H : Type) (enc : TypeId × Value → H) (F : Stop.Interp) :
  ReturnsInHanded {} Try.checked os 7 .any ((OpenSpec.ofChange Rows.carrierRunsSpec).preRow enc Try.prog Try.f7 Rows.carrierRunsRow.domain false Rows.carrierRunsRow.laid) (((OpenSpec.ofChange Rows.carrierRunsSpec).at F).post enc Try.prog Try.f7 false true false false) := by
 obtain ⟨places, hx⟩ := reads os enc
 refine returnsInHanded_of_row (C := Try.checked) (s := OpenSpec.ofChange Rows.carrierRunsSpec) own started (by kernel_rfl) Try.func7
  (witness_row_at (enc := enc) (C := Try.checked) false (World.holding Try.prog os ⟨#[], #[], []⟩) wargs rfl (by kernel_rfl) (by kernel_rfl) (by kernel_rfl)
   (OpenSpec.preRow_of_cond 8 hx (by kernel_rfl) (fun k hk => by cases hk) (by kernel_rfl) (laid_met os))) ?_
 intro W base args ds gs before hval hW _ _ hwt hL _ _
 exact contract H enc W base args ds gs before hval hW hwt

theorem said : Rows.CarrierRunsSaid :=
 OpenClaim.holds_of_cond 7 Try.f7 rfl rfl rfl rfl rfl rfl rfl ⟨rfl, rfl, rfl, rfl, rfl⟩ rfl rfl rfl rfl rfl (by kernel_rfl) Try.func7 (by kernel_rfl)
  (of_decide_eq_true (by kernel_rfl)) (by unfold Func.isWrapper; first | (rw [if_pos (by decide +kernel)]; kernel_rfl) | (rw [if_neg (by decide +kernel)]; exact ⟨rfl, rfl⟩))
  (fun os started H enc _ F => by rw [OpenClaim.pre_eq_preRow]; exact lifted os started H enc F)
end carrierRuns
theorem carrierRuns_holds : Rows.CarrierRunsSaid := carrierRuns.said
end Go.Proofs.Ytkoacclbempmdaa
