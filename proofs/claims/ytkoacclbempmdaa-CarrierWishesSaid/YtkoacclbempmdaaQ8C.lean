/- CarrierWishes: the law's walk at every works, water, ID and wish -/
import Derived.Test.YtkoacclbempmdaaGZL
import Derived.Test.YtkoacclbempmdaaQ8B
namespace Go.Proofs.Ytkoacclbempmdaa
open Go.RowKit

def WetPost (s : Wa) (w : World) (e : Ending) (w' : World) : Prop := ∃ b, e = .returned (.bool b) ∧ (b = true → s.river.length ≤ 100 ∧ s.boards.length ≤ 100 ∧ s.leaks.length ≤ 100 ∧ s.losses.length ≤ 100) ∧ Below w.heap.size w w'
set_option maxHeartbeats 8000000 in
set_option maxRecDepth 1000000 in
theorem wet_any (v : Value) (s : Wa) (w : World) (h : RWa w.heap.size v s w) : Calls Try.prog 19 #[v] w (WetPost s w) := by
  obtain ⟨A1, c1, A2, c2, A3, c3, A4, c4, rfl⟩ := h.form
  clear h
  have hs : (100 : Int) < (s.river.length : Int) ∨ ((s.river.length : Int) ≤ 100 ∧ (100 : Int) < (s.boards.length : Int)) ∨ ((s.river.length : Int) ≤ 100 ∧ (s.boards.length : Int) ≤ 100 ∧ (100 : Int) < (s.leaks.length : Int)) ∨ ((s.river.length : Int) ≤ 100 ∧ (s.boards.length : Int) ≤ 100 ∧ (s.leaks.length : Int) ≤ 100 ∧ (100 : Int) < (s.losses.length : Int)) ∨ ((s.river.length : Int) ≤ 100 ∧ (s.boards.length : Int) ≤ 100 ∧ (s.leaks.length : Int) ≤ 100 ∧ (s.losses.length : Int) ≤ 100) := by omega
  have HB : Hid (Below w.heap.size w (w.alloc (.cells #[.slice A1 s.river.length c1, .slice A2 s.boards.length c2, .slice A3 s.leaks.length c3, .slice A4 s.losses.length c4] 27))) := Lib.hid ((Below.refl _ _).alloc (Nat.le_refl _) _)
  rcases hs with h1 | ⟨h1, h2⟩ | ⟨h1, h2, h3⟩ | ⟨h1, h2, h3, h4⟩ | ⟨h1, h2, h3, h4⟩
  all_goals
    go_enter Try.func19, Try.ntmps19
    go_wp2_with fail
    go_ret
    first
      | exact ⟨false, rfl, (fun h => by cases h), HB.out⟩
      | exact ⟨true, rfl, (fun _ => by omega), HB.out⟩
      | exact ⟨_, rfl, (fun h => by have := of_decide_eq_true h; omega), HB.out⟩

end Go.Proofs.Ytkoacclbempmdaa

/- The law CarrierWishes, by its walk. -/
namespace Go.Proofs.Ytkoacclbempmdaa
open Go.RowKit

theorem boards_up {ws : Wk} {s : Wa} {i : Nat} {p : Pl} (hp : (allP ws)[i]? = some p) {e : Nat → Nat} (he : p.n + 1 = e p.c) {k k' : Int} (hk : k ≤ k') : UpS ws e (setB s i k) (setB s i k') where
  r j c x y _ hx hy _ := by
    have : some x = some y := hx.symm.trans hy
    cases this
    exact Int.le_refl _
  b j q x y hq hx hy := by
    rcases getElem?_set_cases hx with ⟨rfl, rfl⟩ | ⟨h1, hx⟩
    · rw [hp] at hq
      cases hq
      rcases getElem?_set_cases hy with ⟨_, rfl⟩ | ⟨h2, _⟩
      · exact ⟨fun _ => hk, fun h => by omega⟩
      · exact absurd rfl h2
    · rcases getElem?_set_cases hy with ⟨h2, _⟩ | ⟨_, hy⟩
      · exact absurd h2 h1
      · rw [hx] at hy; cases hy; exact ⟨fun _ => Int.le_refl _, fun _ => Int.le_refl _⟩
  k j p x y _ hx hy := by
    have : some x = some y := hx.symm.trans hy
    cases this
    exact ⟨fun _ => Int.le_refl _, fun _ => Int.le_refl _⟩
  l j p x y _ hx hy _ := by
    have : some x = some y := hx.symm.trans hy
    cases this
    exact Int.le_refl _
/-- A higher board gives its outlet no less. -/
theorem openP_mono {ws : Wk} {s : Wa} (hw : WOk ws) (hs : WaOk ws s) {i : Nat} {p : Pl} (hp : (allP ws)[i]? = some p) {want : Int} {k k' : Nat} (hk : k ≤ k') (h1 : k' < p.o.ps.length) (h : openP ws s want i k = true) : openP ws s want i k' = true := by
  unfold openP at h ⊢
  rw [decide_eq_true_iff] at h ⊢
  exact Int.le_trans h (flow_mono hw (setB_ok hs hp (by omega) (by omega)) (setB_ok hs hp (by omega) (by omega)) hp (boards_up hp (endE_at hw hp (pathOf_is hw (lt_total hp)).self_mem hp).symm (by omega)))
theorem LowIs.lst {n : Nat} {pr : Nat → Bool} {a e b f : Int} (h : LowIs n pr a e) (h' : LstIs (n + 1) pr b f) (hm : ∀ j j', j ≤ j' → j' < n + 1 → pr j = true → pr j' = true) : a = b ∧ e = f := by
  obtain ⟨k, h1, h2, h3, rfl, rfl⟩ := h
  rcases h' with ⟨k', g1, rfl, rfl, g2, g3⟩ | ⟨g1, rfl, rfl⟩
  · have e1 : k = k' := by
      rcases Nat.lt_trichotomy k k' with h | h | h
      · have := h3 (by omega); rw [g3 k h] at this; cases this
      · exact h
      · have := h2 (by omega); rw [hm k' (k - 1) (by omega) (by omega) g2] at this; cases this
    subst e1
    rw [if_neg (by omega), if_neg (by omega)]
    exact ⟨rfl, rfl⟩
  · have e1 : ¬ k < n + 1 := fun h => by have := h3 h; rw [g1 k h] at this; cases this
    rw [if_pos (by omega), if_pos (by omega)]
    exact ⟨rfl, rfl⟩
theorem LowIs.same {n : Nat} {pr : Nat → Bool} {a e b f : Int} (h : LowIs n pr a e) (h' : LowIs n pr b f) (hm : ∀ j j', j ≤ j' → j' < n + 1 → pr j = true → pr j' = true) : a = b ∧ e = f := by
  obtain ⟨k, h1, h2, h3, rfl, rfl⟩ := h
  obtain ⟨k', g1, g2, g3, rfl, rfl⟩ := h'
  have e1 : k = k' := by
    rcases Nat.lt_trichotomy k k' with h | h | h
    · have := g2 (by omega); rw [hm k (k' - 1) (by omega) (by omega) (h3 (by omega))] at this; cases this
    · exact h
    · have := h2 (by omega); rw [hm k' (k - 1) (by omega) (by omega) (g3 (by omega))] at this; cases this
  subst e1
  exact ⟨rfl, rfl⟩
set_option maxHeartbeats 16000000 in
set_option maxRecDepth 1000000 in
theorem wishes_law (A : Option Addr) (c : Nat) (wv : Value) (ws : Wk) (s : Wa) (id want : Int) (w : World) (h : RK w.heap.size (.slice A ws.length c) ws w) (hs : RWa w.heap.size wv s w) (hid : (Lit.int .i64 id).wf = true) :
    Calls Try.prog 15 #[.agg #[.slice A ws.length c], wv, .int .i64 id, .int .i64 want] w fun e w' => e = .returned (.bool true) ∧ Below w.heap.size w w' := by
  obtain ⟨A1, c1, A2, c2, A3, c3, A4, c4, rfl⟩ := hs.form
  have H := Lib.hid h
  have HS := Lib.hid hs
  have HWF := Lib.hid hid
  have S := Lib.hid (WW.new w (.slice A ws.length c) (.slice A1 s.river.length c1) (.slice A2 s.boards.length c2) (.slice A3 s.leaks.length c3) (.slice A4 s.losses.length c4))
  obtain ⟨i, d, hwd⟩ := WishAt.exists_ ws s id want
  have HWD := Lib.hid hwd
  clear h hs hid hwd
  go_enter Try.func15, Try.ntmps15
  have xx0 := S.out.wk
  go_wp2_with fail
  refine (few_any A ws.length c ws _ (H.out.up S.out.bel.size S.out.bel)).mono ?_
  rintro e wc1 ⟨b, rfl, hfew, bb⟩
  replace S := Lib.hid (S.out.below bb)
  clear bb xx0
  cases b
  · clear hfew
    go_wp2_with fail
    refine (sanity_any _).mono ?_
    rintro e wz ⟨rfl, bz⟩
    have SZ := Lib.hid (S.out.below bz)
    clear bz
    go_wp2_with fail
    go_ret
    exact ⟨rfl, SZ.out.bel⟩
  have HT : Hid (total ws ≤ 90 ∧ ws.length ≤ 30) := Lib.hid (by have := hfew (by trivial); have h1 := this.1; have h2 := this.2.1; omega)
  clear hfew
  have xx0 := S.out.r
  have xx1 := S.out.b
  have xx2 := S.out.k
  have xx3 := S.out.l
  go_wp2_with fail
  refine (wet_any _ s _ (HS.out.up S.out.bel.size S.out.bel)).mono ?_
  rintro e wc2 ⟨b, rfl, -, bb⟩
  replace S := Lib.hid (S.out.below bb)
  clear bb xx0 xx1 xx2 xx3
  cases b
  · skip
    go_wp2_with fail
    refine (sanity_any _).mono ?_
    rintro e wz ⟨rfl, bz⟩
    have SZ := Lib.hid (S.out.below bz)
    clear bz
    go_wp2_with fail
    go_ret
    exact ⟨rfl, SZ.out.bel⟩
  have xx0 := S.out.wk
  have xx1 := S.out.r
  have xx2 := S.out.b
  have xx3 := S.out.k
  have xx4 := S.out.l
  go_wp2_with fail
  refine (Open_any _ _ ws s id want i d _ (H.out.up S.out.bel.size S.out.bel) (by have := HT.out; omega) (HS.out.up S.out.bel.size S.out.bel) HWD.out).mono ?_
  rintro e wc3 ⟨a, r, rfl, ho1, ho2, bb⟩
  replace S := Lib.hid (S.out.below bb)
  have HA := Lib.hid ho1
  have HB := Lib.hid ho2
  clear bb xx0 xx1 xx2 xx3 xx4 ho1 ho2
  have xx0 := S.out.wk
  have xx1 := S.out.r
  have xx2 := S.out.b
  have xx3 := S.out.k
  have xx4 := S.out.l
  go_wp2_with fail
  refine (rOpen_any _ _ ws s id want i d _ (H.out.up S.out.bel.size S.out.bel) (by have := HT.out; omega) (HS.out.up S.out.bel.size S.out.bel) HWD.out).mono ?_
  rintro e wc4 ⟨b, r2, rfl, ho1, ho2, bb⟩
  replace S := Lib.hid (S.out.below bb)
  clear bb xx0 xx1 xx2 xx3 xx4
  obtain ⟨rfl, rfl⟩ : a = b ∧ r = r2 := by
    by_cases hd : d = 0
    · subst hd
      obtain ⟨hw, hos, -, n, p, rfl, -, hp⟩ := HWD.out.ok
      have h1 := HB.out rfl p (by rw [Int.toNat_natCast]; exact hp)
      have h2 := ho2 rfl p (by rw [Int.toNat_natCast]; exact hp)
      have hpl := (hw.ou hp).pl
      rw [show p.o.ps.length = p.o.ps.length - 1 + 1 by omega] at h2
      rw [Int.toNat_natCast] at h1 h2
      exact h1.lst h2 (fun j j' hj hj' hpr => openP_mono hw hos hp hj (by omega) hpr)
    · exact ⟨(HA.out hd).1.trans (ho1 hd).1.symm, (HA.out hd).2.trans (ho1 hd).2.symm⟩
  clear ho1 ho2 HA HB
  have xx0 := S.out.wk
  have xx1 := S.out.r
  have xx2 := S.out.b
  have xx3 := S.out.k
  have xx4 := S.out.l
  go_wp2_with fail
  refine (Send_any _ _ ws s id want i d _ (H.out.up S.out.bel.size S.out.bel) (by have := HT.out; omega) (HS.out.up S.out.bel.size S.out.bel) HWD.out HWF.out).mono ?_
  rintro e wc5 ⟨a2, r3, rfl, ho1, ho2, bb⟩
  replace S := Lib.hid (S.out.below bb)
  have HA := Lib.hid ho1
  have HB := Lib.hid ho2
  clear bb xx0 xx1 xx2 xx3 xx4 ho1 ho2
  have xx0 := S.out.wk
  have xx1 := S.out.r
  have xx2 := S.out.b
  have xx3 := S.out.k
  have xx4 := S.out.l
  go_wp2_with fail
  refine (rSend_any _ _ ws s id want i d _ (H.out.up S.out.bel.size S.out.bel) (by have := HT.out; omega) (HS.out.up S.out.bel.size S.out.bel) HWD.out).mono ?_
  rintro e wc6 ⟨b, r4, rfl, ho1, ho2, bb⟩
  replace S := Lib.hid (S.out.below bb)
  clear bb xx0 xx1 xx2 xx3 xx4
  obtain ⟨rfl, rfl⟩ : a2 = b ∧ r3 = r4 := by
    by_cases hd : d = 0
    · subst hd
      obtain ⟨hw, hos, -, n, p, rfl, -, hp⟩ := HWD.out.ok
      have h1 := HB.out rfl
      have h2 := ho2 rfl
      rw [Int.toNat_natCast] at h1 h2
      exact h1.same h2 (fun j j' hj hj' hpr => sendP_mono hw hos hp _ hj (by omega) hpr)
    · exact ⟨(HA.out hd).1.trans (ho1 hd).1.symm, (HA.out hd).2.trans (ho1 hd).2.symm⟩
  clear ho1 ho2 HA HB
  go_wp2_with fail
  refine (sanity_any _).mono ?_
  rintro e wz ⟨rfl, bz⟩
  have SZ := Lib.hid (S.out.below bz)
  clear bz
  go_wp2_with fail
  go_ret
  exact ⟨by first | rfl | simp, SZ.out.bel⟩
end Go.Proofs.Ytkoacclbempmdaa

/- The law CarrierWishes holds for every input: the row. -/
namespace Go.Proofs.Ytkoacclbempmdaa
open Go.ChangeShapes Go.WideShapes Go.ChangeAt Go.RowKit Go.Joins

namespace carrierWishes
def wargs : Array Value := #[.agg #[.slice none 0 0], .agg #[.slice none 0 0, .slice none 0 0, .slice none 0 0, .slice none 0 0], .int .i64 0, .int .i64 0]
theorem laid_met (os : Os) : laidMet Try.prog Rows.carrierWishesRow.laid ((World.holding Try.prog os ⟨#[], #[], []⟩).forCall (fun _ _ => 0) ⟨#[], wargs, []⟩).memory :=
  laidMet_of_run' 8 (by kernel_rfl) (by kernel_rfl)
theorem reads (os : Os) {H : Type} (enc : TypeId × Value → H) : ∃ places, DataW.whole enc Try.prog ((World.holding Try.prog os ⟨#[], #[], []⟩).forCall (fun _ _ => 0) ⟨#[], wargs, []⟩).memory Try.f15.params.toList Rows.carrierWishesSpec.vars false wargs.toList 8 = some ([.agg [.nil], .agg [.nil, .nil, .nil, .nil], .lit (.int .i64 0), .lit (.int .i64 0)], [], places) :=
  ⟨[], by kernel_rfl⟩

set_option maxHeartbeats 1000000 in
set_option maxRecDepth 100000 in
/-- What the walk gives, for every argument. -/
theorem contract (H : Type) (enc : TypeId × Value → H) (W : World) (base : Nat) (args : Array Value) (ds gs : List (DataW H)) (before : List MemPlace)
    (hval : ∀ (j : Nat) t v, Try.f15.params[j]? = some t → args[j]? = some v → Value.okWide Try.prog W .any base t v)
    (hW : DataW.Whole enc Try.prog Try.f15.params.toList Rows.carrierWishesSpec.vars false W args.toList ds gs before)
    (hwt : (DataW.weightsEach Try.prog (Try.f15.params.toList ++ DataSpec.varTypes Try.prog (OpenSpec.ofChange Rows.carrierWishesSpec).bare.plain) (ds ++ gs)).all (· ≤ reachBytes) = true) :
    Calls Try.prog 15 args W fun e W' => ∃ v, e = .returned v ∧ Rows.carrierWishesSpec.post enc Try.prog Try.f15 false true false false W args v W' := by
  have hW' := hW
  obtain ⟨p, q, hA0, hV, rfl, hfz, hnd⟩ := hW
  have hA : DataW.TrodAll enc Try.prog W 0 (fun _ => true) true Try.f15.params.toList args.toList ds p := hA0
  have hAk := hA
  have hsize : ∀ t ∈ Try.f15.params.toList, t < Try.prog.types.size := by rw [Try.params15]; decide +kernel
  have hwt' := hwt
  rw [Try.params15] at hA hval hwt'
  obtain ⟨v0, vs0, d0, ds0, p0, q0, hargs, rfl, rfl, h0, r0⟩ := trodAll_cons hA
  obtain ⟨v1, vs1, d1, ds1, p1, q1, rfl, rfl, rfl, h1, r1⟩ := trodAll_cons r0
  obtain ⟨v2, vs2, d2, ds2, p2, q2, rfl, rfl, rfl, h2, r2⟩ := trodAll_cons r1
  obtain ⟨v3, vs3, d3, ds3, p3, q3, rfl, rfl, rfl, h3, r3⟩ := trodAll_cons r2
  obtain ⟨rfl, rfl, rfl⟩ := trodAll_nil r3
  obtain rfl : args = #[v0, v1, v2, v3] := by cases args; simp_all
  obtain ⟨rfl, rfl⟩ := trodVars_none hV
  obtain ⟨A, c, ws, rfl, hk⟩ := works_open (hval 0 24 v0 rfl rfl) h0 (WB.each _ _ hwt' 0 _ _ rfl rfl)
  obtain ⟨s1, hs1⟩ := water_open (hval 1 27 v1 rfl rfl) h1 (WB.each _ _ hwt' 1 _ _ rfl rfl)
  obtain ⟨n2, rfl, rfl, rfl, wn2⟩ := open_int Try.underlying3 (hval 2 3 v2 rfl rfl) h2
  obtain ⟨n3, rfl, rfl, rfl, wn3⟩ := open_int Try.underlying3 (hval 3 3 v3 rfl rfl) h3
  have hcall := wishes_law A c v1 ws s1 n2 n3 W hk hs1 wn2
  refine hcall.mono fun e W' ⟨he, hb⟩ => ?_
  subst he
  refine ⟨_, rfl, _, _, _, [], _, [], hW', ?_, args_again hb hsize hAk, ?_, hb.frame _, fun h => by cases h⟩
  · exact trodAll_cons_mk (shut_bool Try.underlying4 _) trodAll_mk0
  · rfl

set_option maxRecDepth 100000 in
theorem lifted (os : Os) (started : os.Started) (H : Type) (enc : TypeId × Value → H) (F : Stop.Interp) :
    ReturnsInHanded {} Try.checked os 15 .any ((OpenSpec.ofChange Rows.carrierWishesSpec).preRow enc Try.prog Try.f15 Rows.carrierWishesRow.domain false Rows.carrierWishesRow.laid) (((OpenSpec.ofChange Rows.carrierWishesSpec).at F).post enc Try.prog Try.f15 false true false false) := by
  obtain ⟨places, hx⟩ := reads os enc
  refine returnsInHanded_of_row (C := Try.checked) (s := OpenSpec.ofChange Rows.carrierWishesSpec) own started (by kernel_rfl) Try.func15
    (witness_row_at (enc := enc) (C := Try.checked) false (World.holding Try.prog os ⟨#[], #[], []⟩) wargs rfl (by kernel_rfl) (by kernel_rfl) (by kernel_rfl)
      (OpenSpec.preRow_of_cond 8 hx (by kernel_rfl) (fun k hk => by cases hk) (by kernel_rfl) (laid_met os))) ?_
  intro W base args ds gs before hval hW _ _ hwt hL _ _
  exact contract H enc W base args ds gs before hval hW hwt

theorem said : Rows.CarrierWishesSaid :=
  OpenClaim.holds_of_cond 15 Try.f15 rfl rfl rfl rfl rfl rfl rfl ⟨rfl, rfl, rfl, rfl, rfl⟩ rfl rfl rfl rfl rfl (by kernel_rfl) Try.func15 (by kernel_rfl)
    (of_decide_eq_true (by kernel_rfl)) (by unfold Func.isWrapper; first | (rw [if_pos (by decide +kernel)]; kernel_rfl) | (rw [if_neg (by decide +kernel)]; exact ⟨rfl, rfl⟩))
    (fun os started H enc _ F => by rw [OpenClaim.pre_eq_preRow]; exact lifted os started H enc F)
end carrierWishes
theorem carrierWishes_holds : Rows.CarrierWishesSaid := carrierWishes.said
end Go.Proofs.Ytkoacclbempmdaa
