/- CarrierDrinks: the law's walk at every works and course -/
import Derived.Test.YtkoacclbempmdaaQ9A
import Derived.Test.YtkoacclbempmdaaGZL
namespace Go.Proofs.Ytkoacclbempmdaa
open Go.RowKit

theorem fl_field0 (A1 A2 : Option Addr) (n1 c1 n2 c2 : Nat) (x : Int) (w : World) : (Instr.field 171 (.agg #[.slice A1 n1 c1, .slice A2 n2 c2, .int .i64 x]) 0).run Try.prog w = .ok (.slice A1 n1 c1) w := by
  have hs : (sizeOf 25).run Try.prog w = .ok 1 w := by kernel_rfl
  unfold Instr.field
  simp [run_underlying Try.underlying171, asAgg, part, isAgg, hs]
theorem fl_field1 (A1 A2 : Option Addr) (n1 c1 n2 c2 : Nat) (x : Int) (w : World) : (Instr.field 171 (.agg #[.slice A1 n1 c1, .slice A2 n2 c2, .int .i64 x]) 1).run Try.prog w = .ok (.slice A2 n2 c2) w := by
  have hs : (sizeOf 25).run Try.prog w = .ok 1 w := by kernel_rfl
  unfold Instr.field
  simp [run_underlying Try.underlying171, asAgg, part, isAgg, hs]
theorem fl_field2 (A1 A2 : Option Addr) (n1 c1 n2 c2 : Nat) (x : Int) (w : World) : (Instr.field 171 (.agg #[.slice A1 n1 c1, .slice A2 n2 c2, .int .i64 x]) 2).run Try.prog w = .ok (.int .i64 x) w := by
  have hs : (sizeOf 3).run Try.prog w = .ok 1 w := by kernel_rfl
  unfold Instr.field
  simp [run_underlying Try.underlying171, asAgg, part, isAgg, hs]

/-- A result's block of a list and an error, wherever it lies. -/
structure R2B (g : Nat) (W : World) : Prop where
  c0 : W.cell? ⟨g, 0, none⟩ = some (.slice none 0 0)
  c1 : W.cell? ⟨g, 1, none⟩ = some (.int .i64 0)
  f0 : W.frozen? ⟨g, 0, none⟩ = false
  f1 : W.frozen? ⟨g, 1, none⟩ = false
theorem R2B.lt {g : Nat} {W : World} (h : R2B g W) : g < W.heap.size := World.block_lt_of_cell? _ _ h.c0
theorem R2B.below {g : Nat} {W W' : World} (h : R2B g W) (hb : Below W.heap.size W W') : R2B g W' :=
  ⟨(hb.cell (p := ⟨g, 0, none⟩) h.lt).trans h.c0, (hb.cell (p := ⟨g, 1, none⟩) h.lt).trans h.c1, (hb.frozen (p := ⟨g, 0, none⟩) h.lt).trans h.f0, (hb.frozen (p := ⟨g, 1, none⟩) h.lt).trans h.f1⟩
theorem R2B.ret {g : Nat} {w W : World} (h : R2B g W) (hb : Below w.heap.size w W) (hg : w.heap.size ≤ g) (v : Value) (d : Int) :
    ∃ X, (W.setCell ⟨g, 0, none⟩ v).setCell ⟨g, 1, none⟩ (.int .i64 d) = X ∧ X.cell? ⟨g, 0, none⟩ = some v ∧ X.cell? ⟨g, 1, none⟩ = some (.int .i64 d) ∧ Below w.heap.size w X ∧ GrownL [g] W X := by
  have gr : GrownL [g] W ((W.setCell ⟨g, 0, none⟩ v).setCell ⟨g, 1, none⟩ (.int .i64 d)) := (GrownL.set _ _ _ (by simp)).trans (GrownL.set _ _ _ (by simp))
  have e1 : (W.setCell ⟨g, 0, none⟩ v).cell? ⟨g, 0, none⟩ = some v := World.cell?_setCell_same' _ _ _ (by rw [h.c0]; rfl)
  have e2 : (W.setCell ⟨g, 0, none⟩ v).cell? ⟨g, 1, none⟩ = some (.int .i64 0) := (World.cell?_setCell_other _ ⟨g, 0, none⟩ ⟨g, 1, none⟩ _ (by simp)).trans h.c1
  exact ⟨_, rfl, (World.cell?_setCell_other _ ⟨g, 1, none⟩ ⟨g, 0, none⟩ _ (by simp)).trans e1, World.cell?_setCell_same' _ _ _ (by rw [e2]; rfl), hb.trans (gr.below (by simpa using hg) hb.size), gr⟩

set_option maxHeartbeats 8000000 in
set_option maxRecDepth 1000000 in
theorem rCheckWater_any (v wv : Value) (ws : Wk) (s : Wa) (d : Int) (w : World) (h : RK w.heap.size v ws w) (ht : total ws ≤ 100000) (hs : RWa w.heap.size wv s w) (hd : WatIs ws s d) :
    Calls Try.prog 59 #[.agg #[v], wv] w fun e w' => e = .returned (.int .i64 d) ∧ Below w.heap.size w w' := by
  obtain ⟨A, c, rfl, -⟩ := (show ∃ A c, v = .slice A ws.length c ∧ True by obtain ⟨A, c, e, _⟩ := h; exact ⟨A, c, e, trivial⟩)
  obtain ⟨A1, c1, A2, c2, A3, c3, A4, c4, rfl⟩ := hs.form
  have C1 := Lib.hid fun (d : Int) (hc : CheckIs ws d) W (hb : Below w.heap.size w W) => rcheck_any A ws.length c ws d W (h.up hb.size hb) ht hc
  have C2 := Lib.hid fun (hw : WOk ws) (hd : (WaOk ws s ∧ d = 0) ∨ (¬ WaOk ws s ∧ d = 1)) W (hb : Below w.heap.size w W) => rwater_any A c _ ws s d W (h.up hb.size hb) (hs.up hb.size hb) hw hd
  have S0 := Lib.hid (WW.new w (.slice A ws.length c) (.slice A1 s.river.length c1) (.slice A2 s.boards.length c2) (.slice A3 s.leaks.length c3) (.slice A4 s.losses.length c4))
  clear h hs
  have hx : (CheckIs ws d ∧ d ≠ 0) ∨ (CheckIs ws 0 ∧ ((WaOk ws s ∧ d = 0) ∨ (¬ WaOk ws s ∧ d = 1))) := by
    rcases hd with h | ⟨a, b, e⟩ | ⟨a, b, e⟩
    · exact .inl h
    · exact .inr ⟨a, .inr ⟨b, e⟩⟩
    · exact .inr ⟨a, .inl ⟨b, e⟩⟩
  rcases hx with ⟨hc, hd⟩ | ⟨hc, hd⟩
  · have HC := Lib.hid hc
    have hdb : (d != 0) = true := by rw [bne_iff_ne]; exact hd
    clear hc
    go_enter Try.func59, Try.ntmps59
    go_wp2_with fail
    refine (C1.out d HC.out _ S0.out.bel).mono ?_
    rintro e w1 ⟨rfl, b1⟩
    have S1 := Lib.hid (S0.out.below b1)
    clear b1
    go_wp2_with fail
    go_ret
    exact ⟨rfl, S1.out.bel⟩
  · have HC := Lib.hid hc
    have HD := Lib.hid hd
    clear hc hd
    go_enter Try.func59, Try.ntmps59
    go_wp2_with fail
    refine (C1.out 0 HC.out _ S0.out.bel).mono ?_
    rintro e w1 ⟨rfl, b1⟩
    have S1 := Lib.hid (S0.out.below b1)
    clear b1
    have x0 := S1.out.wk
    have x1 := S1.out.r
    have x2 := S1.out.b
    have x3 := S1.out.k
    have x4 := S1.out.l
    go_wp2_with fail
    refine (C2.out HC.out.ok HD.out _ S1.out.bel).mono ?_
    rintro e w2 ⟨rfl, b1⟩
    have S2 := Lib.hid (S1.out.below b1)
    clear b1
    go_wp2_with fail
    go_ret
    exact ⟨rfl, S2.out.bel⟩

set_option maxHeartbeats 8000000 in
set_option maxRecDepth 1000000 in
theorem rFlow_any (v wv : Value) (ws : Wk) (s : Wa) (d : Int) (w : World) (h : RK w.heap.size v ws w) (ht : total ws ≤ 100000) (hs : RWa w.heap.size wv s w) (hd : WatIs ws s d) :
    Calls Try.prog 56 #[.agg #[v], wv] w fun e w' => ∃ u, e = .returned (.agg #[u, .int .i64 d]) ∧ OwnG encI 1 3 w.heap.size u (okL d (flowF ws s).thr) w' ∧ Below w.heap.size w w' := by
  obtain ⟨A, c, rfl, -⟩ := (show ∃ A c, v = .slice A ws.length c ∧ True by obtain ⟨A, c, e, _⟩ := h; exact ⟨A, c, e, trivial⟩)
  obtain ⟨A1, c1, A2, c2, A3, c3, A4, c4, rfl⟩ := hs.form
  have C1 := Lib.hid fun W (hb : Below w.heap.size w W) => rCheckWater_any (.slice A ws.length c) _ ws s d W (h.up hb.size hb) ht (hs.up hb.size hb) hd
  have C2 := Lib.hid fun (hw : WOk ws) (ho : WaOk ws s) W (hb : Below w.heap.size w W) => rflow_any A c _ ws s W (h.up hb.size hb) (hs.up hb.size hb) hw ho
  have S0 := Lib.hid ((WW.new w (.slice A ws.length c) (.slice A1 s.river.length c1) (.slice A2 s.boards.length c2) (.slice A3 s.leaks.length c3) (.slice A4 s.losses.length c4)).below ((Below.refl _ _).alloc (Nat.le_refl _) (.cells #[.slice none 0 0, .int .i64 0] 86)))
  have R0 : Hid (R2B (w.heap.size + 1 + 1) (((w.alloc (.cells #[.slice A ws.length c] 24)).alloc (.cells #[.slice A1 s.river.length c1, .slice A2 s.boards.length c2, .slice A3 s.leaks.length c3, .slice A4 s.losses.length c4] 27)).alloc (.cells #[.slice none 0 0, .int .i64 0] 86))) := Lib.hid ⟨by simp [go_sem], by simp [go_sem], by simp [go_sem], by simp [go_sem]⟩
  have HD := Lib.hid hd
  clear h hs hd
  go_enter Try.func56, Try.ntmps56
  go_wp2_with fail
  refine (C1.out _ S0.out.bel).mono ?_
  rintro e w1 ⟨rfl, b1⟩
  have S := Lib.hid (S0.out.below b1)
  have R := Lib.hid (R0.out.below b1)
  clear b1 S0 C1 R0
  by_cases hd0 : d = 0
  · subst hd0
    have HOK := Lib.hid HD.out.ok
    have x0 := S.out.wk
    have x1 := S.out.r
    have x2 := S.out.b
    have x3 := S.out.k
    have x4 := S.out.l
    go_wp2_with fail
    refine (C2.out HOK.out.1 HOK.out.2 _ S.out.bel).mono ?_
    rintro e w2 ⟨v1, v2, rfl, o1, o2, b2⟩
    have S2 := Lib.hid (S.out.below b2)
    have R2 := Lib.hid (R.out.below b2)
    obtain ⟨U1, d1, rfl, -⟩ := o1.form
    obtain ⟨U2, d2, rfl, -⟩ := o2.form
    have HO := Lib.hid o1
    obtain ⟨m1, hm1⟩ : ∃ n, (flowF ws s).thr.length = n := ⟨_, rfl⟩
    obtain ⟨m2, hm2⟩ : ∃ n, (tailsL ws s).length = n := ⟨_, rfl⟩
    obtain ⟨L, hL⟩ : ∃ n, (flowF ws s).lost = n := ⟨_, rfl⟩
    rw [hm1] at HO
    rw [hm1, hm2, hL]
    have fl := fl_field0 U1 U2 m1 d1 m2 d2 L w2
    have r0 := R2.out.c0
    have r1 := R2.out.c1
    have r2 := R2.out.f0
    have r3 := R2.out.f1
    clear o1 o2 b2 x0 x1 x2 x3 x4 hm1 hm2 hL
    go_wp2_with fail
    obtain ⟨X, hX, p0, p1, bb, gg⟩ := R2.out.ret S2.out.bel (by omega) (.slice U1 m1 d1) 0
    rw [hX]
    clear hX
    refine bodyPost_ret (v := .agg #[.slice U1 m1 d1, .int .i64 0]) (by simp [results, Try.results56, go_sem, p0, p1]) rfl ?_
    have hs1 := S.out.siz
    have hs2 := R.out.lt
    exact ⟨_, rfl, by rw [okL_zero]; exact (HO.out.grown gg (fun q hq hm => by have := (HO.out.lt q hq).1; simp at hm; omega)).low (by omega), bb⟩
  · have HD0 := Lib.hid hd0
    have hdb : (d != 0) = true := by rw [bne_iff_ne]; exact hd0
    have r0 := R.out.c0
    have r1 := R.out.c1
    have r2 := R.out.f0
    have r3 := R.out.f1
    go_wp2_with fail
    obtain ⟨X, hX, p0, p1, bb, gg⟩ := R.out.ret S.out.bel (by omega) (.slice none 0 0) d
    rw [hX]
    clear hX
    refine bodyPost_ret (v := .agg #[.slice none 0 0, .int .i64 d]) (by simp [results, Try.results56, go_sem, p0, p1]) rfl ?_
    exact ⟨_, rfl, by rw [okL_ne HD0.out]; exact OwnG.nil _ _ _ _ _, bb⟩

set_option maxHeartbeats 8000000 in
set_option maxRecDepth 1000000 in
theorem rTails_any (v wv : Value) (ws : Wk) (s : Wa) (d : Int) (w : World) (h : RK w.heap.size v ws w) (ht : total ws ≤ 100000) (hs : RWa w.heap.size wv s w) (hd : WatIs ws s d) :
    Calls Try.prog 57 #[.agg #[v], wv] w fun e w' => ∃ u, e = .returned (.agg #[u, .int .i64 d]) ∧ OwnG encI 1 3 w.heap.size u (okL d (tailsL ws s)) w' ∧ Below w.heap.size w w' := by
  obtain ⟨A, c, rfl, -⟩ := (show ∃ A c, v = .slice A ws.length c ∧ True by obtain ⟨A, c, e, _⟩ := h; exact ⟨A, c, e, trivial⟩)
  obtain ⟨A1, c1, A2, c2, A3, c3, A4, c4, rfl⟩ := hs.form
  have C1 := Lib.hid fun W (hb : Below w.heap.size w W) => rCheckWater_any (.slice A ws.length c) _ ws s d W (h.up hb.size hb) ht (hs.up hb.size hb) hd
  have C2 := Lib.hid fun (hw : WOk ws) (ho : WaOk ws s) W (hb : Below w.heap.size w W) => rflow_any A c _ ws s W (h.up hb.size hb) (hs.up hb.size hb) hw ho
  have S0 := Lib.hid ((WW.new w (.slice A ws.length c) (.slice A1 s.river.length c1) (.slice A2 s.boards.length c2) (.slice A3 s.leaks.length c3) (.slice A4 s.losses.length c4)).below ((Below.refl _ _).alloc (Nat.le_refl _) (.cells #[.slice none 0 0, .int .i64 0] 86)))
  have R0 : Hid (R2B (w.heap.size + 1 + 1) (((w.alloc (.cells #[.slice A ws.length c] 24)).alloc (.cells #[.slice A1 s.river.length c1, .slice A2 s.boards.length c2, .slice A3 s.leaks.length c3, .slice A4 s.losses.length c4] 27)).alloc (.cells #[.slice none 0 0, .int .i64 0] 86))) := Lib.hid ⟨by simp [go_sem], by simp [go_sem], by simp [go_sem], by simp [go_sem]⟩
  have HD := Lib.hid hd
  clear h hs hd
  go_enter Try.func57, Try.ntmps57
  go_wp2_with fail
  refine (C1.out _ S0.out.bel).mono ?_
  rintro e w1 ⟨rfl, b1⟩
  have S := Lib.hid (S0.out.below b1)
  have R := Lib.hid (R0.out.below b1)
  clear b1 S0 C1 R0
  by_cases hd0 : d = 0
  · subst hd0
    have HOK := Lib.hid HD.out.ok
    have x0 := S.out.wk
    have x1 := S.out.r
    have x2 := S.out.b
    have x3 := S.out.k
    have x4 := S.out.l
    go_wp2_with fail
    refine (C2.out HOK.out.1 HOK.out.2 _ S.out.bel).mono ?_
    rintro e w2 ⟨v1, v2, rfl, o1, o2, b2⟩
    have S2 := Lib.hid (S.out.below b2)
    have R2 := Lib.hid (R.out.below b2)
    obtain ⟨U1, d1, rfl, -⟩ := o1.form
    obtain ⟨U2, d2, rfl, -⟩ := o2.form
    have HO := Lib.hid o2
    obtain ⟨m1, hm1⟩ : ∃ n, (flowF ws s).thr.length = n := ⟨_, rfl⟩
    obtain ⟨m2, hm2⟩ : ∃ n, (tailsL ws s).length = n := ⟨_, rfl⟩
    obtain ⟨L, hL⟩ : ∃ n, (flowF ws s).lost = n := ⟨_, rfl⟩
    rw [hm2] at HO
    rw [hm1, hm2, hL]
    have fl := fl_field1 U1 U2 m1 d1 m2 d2 L w2
    have r0 := R2.out.c0
    have r1 := R2.out.c1
    have r2 := R2.out.f0
    have r3 := R2.out.f1
    clear o1 o2 b2 x0 x1 x2 x3 x4 hm1 hm2 hL
    go_wp2_with fail
    obtain ⟨X, hX, p0, p1, bb, gg⟩ := R2.out.ret S2.out.bel (by omega) (.slice U2 m2 d2) 0
    rw [hX]
    clear hX
    refine bodyPost_ret (v := .agg #[.slice U2 m2 d2, .int .i64 0]) (by simp [results, Try.results57, go_sem, p0, p1]) rfl ?_
    have hs1 := S.out.siz
    have hs2 := R.out.lt
    exact ⟨_, rfl, by rw [okL_zero]; exact (HO.out.grown gg (fun q hq hm => by have := (HO.out.lt q hq).1; simp at hm; omega)).low (by omega), bb⟩
  · have HD0 := Lib.hid hd0
    have hdb : (d != 0) = true := by rw [bne_iff_ne]; exact hd0
    have r0 := R.out.c0
    have r1 := R.out.c1
    have r2 := R.out.f0
    have r3 := R.out.f1
    go_wp2_with fail
    obtain ⟨X, hX, p0, p1, bb, gg⟩ := R.out.ret S.out.bel (by omega) (.slice none 0 0) d
    rw [hX]
    clear hX
    refine bodyPost_ret (v := .agg #[.slice none 0 0, .int .i64 d]) (by simp [results, Try.results57, go_sem, p0, p1]) rfl ?_
    exact ⟨_, rfl, by rw [okL_ne HD0.out]; exact OwnG.nil _ _ _ _ _, bb⟩

set_option maxHeartbeats 8000000 in
set_option maxRecDepth 1000000 in
theorem rLost_any (v wv : Value) (ws : Wk) (s : Wa) (d : Int) (w : World) (h : RK w.heap.size v ws w) (ht : total ws ≤ 100000) (hs : RWa w.heap.size wv s w) (hd : WatIs ws s d) :
    Calls Try.prog 58 #[.agg #[v], wv] w fun e w' => e = .returned (.tuple #[.int .i64 (okN d (flowF ws s).lost), .int .i64 d]) ∧ Below w.heap.size w w' := by
  obtain ⟨A, c, rfl, -⟩ := (show ∃ A c, v = .slice A ws.length c ∧ True by obtain ⟨A, c, e, _⟩ := h; exact ⟨A, c, e, trivial⟩)
  obtain ⟨A1, c1, A2, c2, A3, c3, A4, c4, rfl⟩ := hs.form
  have C1 := Lib.hid fun W (hb : Below w.heap.size w W) => rCheckWater_any (.slice A ws.length c) _ ws s d W (h.up hb.size hb) ht (hs.up hb.size hb) hd
  have C2 := Lib.hid fun (hw : WOk ws) (ho : WaOk ws s) W (hb : Below w.heap.size w W) => rflow_any A c _ ws s W (h.up hb.size hb) (hs.up hb.size hb) hw ho
  have S0 := Lib.hid (WW.new w (.slice A ws.length c) (.slice A1 s.river.length c1) (.slice A2 s.boards.length c2) (.slice A3 s.leaks.length c3) (.slice A4 s.losses.length c4))
  have HD := Lib.hid hd
  obtain ⟨L, hL⟩ : ∃ n, okN d (flowF ws s).lost = n := ⟨_, rfl⟩
  have HL := Lib.hid hL
  rw [hL]
  clear h hs hd hL
  go_enter Try.func58, Try.ntmps58
  go_wp2_with fail
  refine (C1.out _ S0.out.bel).mono ?_
  rintro e w1 ⟨rfl, b1⟩
  have S := Lib.hid (S0.out.below b1)
  clear b1 S0 C1
  by_cases hd0 : d = 0
  · subst hd0
    have HOK := Lib.hid HD.out.ok
    have x0 := S.out.wk
    have x1 := S.out.r
    have x2 := S.out.b
    have x3 := S.out.k
    have x4 := S.out.l
    go_wp2_with fail
    refine (C2.out HOK.out.1 HOK.out.2 _ S.out.bel).mono ?_
    rintro e w2 ⟨v1, v2, rfl, o1, o2, b2⟩
    have S2 := Lib.hid (S.out.below b2)
    obtain ⟨U1, d1, rfl, -⟩ := o1.form
    obtain ⟨U2, d2, rfl, -⟩ := o2.form
    have hL : (flowF ws s).lost = L := by have := HL.out; rwa [okN_zero] at this
    obtain ⟨m1, hm1⟩ : ∃ n, (flowF ws s).thr.length = n := ⟨_, rfl⟩
    obtain ⟨m2, hm2⟩ : ∃ n, (tailsL ws s).length = n := ⟨_, rfl⟩
    rw [hL, hm1, hm2]
    have fl := fl_field2 U1 U2 m1 d1 m2 d2 L w2
    clear o1 o2 b2 x0 x1 x2 x3 x4 hL hm1 hm2
    go_wp2_with fail
    refine bodyPost_ret (results_tmp2 rfl _ _ _) rfl ?_
    exact ⟨rfl, S2.out.bel⟩
  · have HD0 := Lib.hid hd0
    have hdb : (d != 0) = true := by rw [bne_iff_ne]; exact hd0
    obtain rfl : L = 0 := by have := HL.out; unfold okN at this; rw [if_neg hd0] at this; exact this.symm
    go_wp2_with fail
    refine bodyPost_ret (results_tmp2 rfl _ _ _) rfl ?_
    exact ⟨rfl, S.out.bel⟩
end Go.Proofs.Ytkoacclbempmdaa

/- Contract of the specification's Drunk. -/
namespace Go.Proofs.Ytkoacclbempmdaa
open Go.RowKit

/-- A list of zeros of one's own. -/
theorem makeI (n : Nat) (hn : n ≤ 60) (w : World) : ∃ W, (Instr.makeSlice 25 (.int .i64 (n : Int)) (.int .i64 (n : Int))).run Try.prog w = .ok (.slice (some ⟨w.heap.size, 0, none⟩) n n) W ∧ OwnG encI 1 3 w.heap.size (.slice (some ⟨w.heap.size, 0, none⟩) n n) (List.replicate n 0) W ∧ Below w.heap.size w W := by
  obtain ⟨i0, hz0, hj0, hj1, hj2⟩ := info_parts infoInt
  obtain ⟨W, h1, h2, h3⟩ := run_makeSlice_full (P := Try.prog) w w.heap.size 25 3 i0 _ 1 Try.underlying25 hz0 hj0 hj1 .i64 .i64 n (by omega) (by rw [hj2]; omega) (by unfold maxLen; omega) (Nat.le_refl _)
  refine ⟨W, h1, ?_, (GrownL.of_row h3).below (by simp) (Nat.le_refl _)⟩
  unfold OwnG
  rw [List.length_replicate]
  have e : (madeCells (Value.cells (.int .i64 0)) (n * 1)).toList = (List.replicate n (0 : Int)).flatMap encI := by
    rw [show Value.cells (.int .i64 0) = #[.int .i64 0] from rfl, toList_madeCells_one, Nat.mul_one, List.flatMap_replicate]
    simp [encI]
  rw [← e]
  exact h2

theorem drunk_b2 {ws : Wk} (hw : WOk ws) {l : List Rn} (i : Nat) : ∀ j, (∀ (q : Nat) (r : Rn), q < j → l[q]? = some r → RnOk ws r) → 0 ≤ drunkAt ws l i j ∧ drunkAt ws l i j ≤ j * 1099511627776
  | 0, _ => by simp [drunkAt]
  | j + 1, hl => by
    have ih := drunk_b2 hw i j (fun q r hq => hl q r (by omega))
    rw [drunkAt]
    split
    · rename_i r hr
      obtain ⟨h1, h2⟩ := hl j r (by omega) hr
      have hb := thr_b hw h2 i
      have := mul_b hb.1 hb.2 (m := r.mn) (by omega) (by omega)
      omega
    · omega
theorem range_set {n k : Nat} (f : Nat → Int) (v : Int) : ((List.range n).map f).set k v = (List.range n).map fun i => if i = k then v else f i := by
  refine List.ext_getElem (by simp) (fun i h1 h2 => ?_)
  rw [List.getElem_set]
  simp only [List.getElem_map, List.getElem_range]
  by_cases e : i = k
  · subst e; simp
  · rw [if_neg (Ne.symm e), if_neg e]

set_option maxHeartbeats 8000000 in
set_option maxRecDepth 1000000 in
theorem rDrunk_any (v lv : Value) (ws : Wk) (l : List Rn) (d : Int) (w : World) (h : RK w.heap.size v ws w) (ht : total ws ≤ 100000) (hl : RN w.heap.size lv l w) (hd : CourseIs ws l d) :
    Calls Try.prog 73 #[.agg #[v], lv] w fun e w' => ∃ u, e = .returned (.agg #[u, .int .i64 d]) ∧ OwnG encI 1 3 w.heap.size u (okL d (drunkL ws l)) w' ∧ Below w.heap.size w w' := by
  obtain ⟨A, c, rfl, -⟩ := (show ∃ A c, v = .slice A ws.length c ∧ True by obtain ⟨A, c, e, _⟩ := h; exact ⟨A, c, e, trivial⟩)
  obtain ⟨Al, cl, rfl⟩ := hl.form
  have C1 := Lib.hid fun (d : Int) (hc : CheckIs ws d) W (hb : Below w.heap.size w W) => rcheck_any A ws.length c ws d W (h.up hb.size hb) ht hc
  have C2 := Lib.hid fun W (hb : Below w.heap.size w W) => routlets_any A ws.length c ws W (h.up hb.size hb) ht
  have HK := Lib.hid h
  have HL := Lib.hid hl
  have S0 := Lib.hid ((WC1.new w (.slice A ws.length c)).below ((Below.refl _ _).alloc (Nat.le_refl _) (.cells #[.slice none 0 0, .int .i64 0] 86)))
  have R0 : Hid (R2B (w.heap.size + 1) ((w.alloc (.cells #[.slice A ws.length c] 24)).alloc (.cells #[.slice none 0 0, .int .i64 0] 86))) := Lib.hid ⟨by simp [go_sem], by simp [go_sem], by simp [go_sem], by simp [go_sem]⟩
  obtain ⟨dc, hdc, hz, hcase⟩ : ∃ dc, CheckIs ws dc ∧ (dc ≠ 0 → d = dc) ∧ (dc = 0 → (60 < l.length ∧ d = 2) ∨ (l.length ≤ 60 ∧ (¬ ∀ (j : Nat) (r : Rn), l[j]? = some r → RnOk ws r) ∧ d = 1) ∨ (l.length ≤ 60 ∧ (∀ (j : Nat) (r : Rn), l[j]? = some r → RnOk ws r) ∧ d = 0)) := by
    rcases hd with ⟨h, h0⟩ | ⟨h, h1⟩ | ⟨h, h1⟩ | ⟨h, h1⟩
    · exact ⟨d, h, fun _ => rfl, fun h => absurd h h0⟩
    · exact ⟨0, h, fun h => absurd rfl h, fun _ => .inl h1⟩
    · exact ⟨0, h, fun h => absurd rfl h, fun _ => .inr (.inl h1)⟩
    · exact ⟨0, h, fun h => absurd rfl h, fun _ => .inr (.inr h1)⟩
  have HC := Lib.hid hdc
  have HZ := Lib.hid hz
  have HCX := Lib.hid hcase
  have HF := Lib.hid hl.fits
  have hfit : (l.length : Int) ≤ 1000000000000000 := by have := HF.out; omega
  clear h hl hd hdc hz hcase
  go_enter Try.func73, Try.ntmps73
  go_wp2_with fail
  refine (C1.out dc HC.out _ S0.out.bel).mono ?_
  rintro e w1 ⟨rfl, b1⟩
  have S := Lib.hid (S0.out.below b1)
  have R := Lib.hid (R0.out.below b1)
  clear b1 C1 S0 R0
  by_cases hd0 : dc = 0
  rotate_left
  · have hdb : (dc != 0) = true := by rw [bne_iff_ne]; exact hd0
    have E := Lib.hid (HZ.out hd0)
    have HD0 := Lib.hid hd0
    have r0 := R.out.c0
    have r1 := R.out.c1
    have r2 := R.out.f0
    have r3 := R.out.f1
    go_wp2_with fail
    obtain ⟨X, hX, p0, p1, bb, gg⟩ := R.out.ret S.out.bel (by omega) (.slice none 0 0) dc
    rw [hX]
    clear hX
    refine bodyPost_ret (v := .agg #[.slice none 0 0, .int .i64 dc]) (by simp [results, Try.results73, go_sem, p0, p1]) rfl ?_
    exact ⟨_, by rw [E.out], by rw [E.out, okL_ne HD0.out]; exact OwnG.nil _ _ _ _ _, bb⟩
  subst hd0
  have HCS := Lib.hid (HCX.out rfl)
  have HW : Hid (WOk ws) := Lib.hid HC.out.ok
  by_cases h60 : 60 < l.length
  · have h0 : (60 : Int) < (l.length : Int) := by omega
    have E : Hid (d = 2) := Lib.hid (by rcases HCS.out with ⟨_, h⟩ | ⟨h, _⟩ | ⟨h, _⟩ <;> omega)
    have r0 := R.out.c0
    have r1 := R.out.c1
    have r2 := R.out.f0
    have r3 := R.out.f1
    go_wp2_with fail
    obtain ⟨X, hX, p0, p1, bb, gg⟩ := R.out.ret S.out.bel (by omega) (.slice none 0 0) 2
    rw [hX]
    clear hX
    refine bodyPost_ret (v := .agg #[.slice none 0 0, .int .i64 2]) (by simp [results, Try.results73, go_sem, p0, p1]) rfl ?_
    exact ⟨_, by rw [E.out], by rw [E.out, okL_ne (by decide)]; exact OwnG.nil _ _ _ _ _, bb⟩
  have h0 : (l.length : Int) ≤ 60 := by omega
  have x0 := S.out.wk
  go_wp2_with fail
  refine (C2.out _ S.out.bel).mono ?_
  rintro e w2 ⟨vo, rfl, ho, b2⟩
  obtain ⟨Ao, co, rfl, -⟩ := ho.form
  have S2 := Lib.hid (S.out.below b2)
  have R2 := Lib.hid (R.out.below b2)
  have hot : (outs ws).length = total ws := outs_len ws
  rw [hot]
  have htt := HW.out.tot
  obtain ⟨n, hn⟩ : ∃ n, total ws = n := ⟨_, rfl⟩
  have HN := Lib.hid hn
  rw [hn] at htt ⊢
  have hn0 : (n : Int) ≤ 60 := by omega
  clear b2 ho hot hn x0
  obtain ⟨W3, hm3, ho3, b3⟩ := makeI n (by omega) w2
  have RM := Lib.hid hm3
  have O3 := Lib.hid ho3
  have S3 := Lib.hid (S2.out.below b3)
  have R3 := Lib.hid (R2.out.below b3)
  have HG : Hid (w.heap.size + 1 < w2.heap.size) := Lib.hid R2.out.lt
  clear hm3 ho3 b3
  go_upto_region 7 with fail
  rw [RM.out]
  obtain ⟨g, hg⟩ : ∃ g, w2.heap.size = g := ⟨_, rfl⟩
  rw [hg] at O3 HG ⊢
  clear hg S2 R2 RM S R
  go_wp2_with fail
  go_loopw [7] (fun a wr => ∃ j : Nat, a = .int .i64 j ∧ j ≤ l.length ∧ (∀ (i : Nat) (r : Rn), i < j → l[i]? = some r → RnOk ws r) ∧ OwnG encI 1 3 g (.slice (some ⟨g, 0, none⟩) n n) ((List.range n).map fun i => drunkAt ws l i j) wr ∧ WC1 w (.slice A ws.length c) wr ∧ R2B (w.heap.size + 1) wr) (fun a _ => l.length - (intOf a).toNat)
  case atStart => exact ⟨0, rfl, by omega, fun i r hi => absurd hi (by omega), by
    rw [show ((List.range n).map fun i => drunkAt ws l i 0) = List.replicate n 0 by simp [drunkAt, List.map_const']]
    exact O3.out, S3.out, R3.out⟩
  case round =>
    obtain ⟨j, rfl, hj, hpre, hO, hS, hR⟩ := hrel
    obtain ⟨wo, rfl⟩ : ∃ wo, wo = wr := ⟨_, rfl⟩
    have S := Lib.hid hS
    have O := Lib.hid hO
    have R := Lib.hid hR
    have HP := Lib.hid hpre
    clear hS hO hR hpre S3 O3 R3
    by_cases hjl : j < l.length
    · have hj0 : (j : Int) < (l.length : Int) := by omega
      obtain ⟨r, hr⟩ : ∃ r, l[j]? = some r := ⟨_, List.getElem?_eq_getElem hjl⟩
      have HR := Lib.hid hr
      have bad : ¬ RnOk ws r → d = 1 := fun hb => by
        rcases HCS.out with ⟨h, _⟩ | ⟨_, _, h⟩ | ⟨_, h, _⟩
        · omega
        · exact h
        · exact absurd (h j r HR.out) hb
      have HBAD := Lib.hid bad
      obtain ⟨b, o, rfl, hlt, q0, A1, c1, A2, c2, A3, c3, A4, c4, q1, q2, q3, q4, q5⟩ := rn_at (HL.out.up S.out.bel.size S.out.bel) hr
      have Q := Lib.hid q5
      clear q5 hr bad
      go_wp2_with fail
      refine (within_same r.mn 1 1048576 _).mono ?_
      rintro e w5 ⟨rfl, rfl⟩
      by_cases hm : 1 ≤ r.mn ∧ r.mn ≤ 1048576
      rotate_left
      · have hin : inB 1 1048576 r.mn = false := by unfold inB; simp; omega
        have E : Hid (d = 1) := Lib.hid (HBAD.out (fun h => hm h.1))
        have r0 := R.out.c0
        have r1 := R.out.c1
        have r2 := R.out.f0
        have r3 := R.out.f1
        rw [hin]
        go_wp2_with fail
        obtain ⟨X, hX, p0, p1, bb, gg⟩ := R.out.ret S.out.bel (by omega) (.slice none 0 0) 1
        rw [hX]
        clear hX
        refine bodyPost_ret (v := .agg #[.slice none 0 0, .int .i64 1]) (by simp [results, Try.results73, go_sem, p0, p1]) rfl ?_
        exact ⟨_, by rw [E.out], by rw [E.out, okL_ne (by decide)]; exact OwnG.nil _ _ _ _ _, bb⟩
      have hin : inB 1 1048576 r.mn = true := by unfold inB; simp; omega
      rw [hin]
      have x0 := S.out.wk
      go_upto_region 13 with fail
      obtain ⟨dw, hdw⟩ : ∃ dw : Int, (WaOk ws r.wa ∧ dw = 0) ∨ (¬ WaOk ws r.wa ∧ dw = 1) := by
        by_cases h : WaOk ws r.wa
        · exact ⟨0, .inl ⟨h, rfl⟩⟩
        · exact ⟨1, .inr ⟨h, rfl⟩⟩
      have HDW := Lib.hid hdw
      clear hdw q0
      refine wp_region_held_drew (S := BelS wo) (by kernel_rfl) (BelS.drew0 _) (fun J0 => ?_)
      refine tw 0 41 J0 ?_ (hy := by intro w' hSw; have p0 := hSw.c x0; have p1 := hSw.c q1; have p2 := hSw.c q2; have p3 := hSw.c q3; have p4 := hSw.c q4; go_simp; try with_reducible rfl)
      try simp only [aS]
      refine tw 1 42 J0 ?_ (hy := by intro w' hSw; have p0 := hSw.c x0; have p1 := hSw.c q1; have p2 := hSw.c q2; have p3 := hSw.c q3; have p4 := hSw.c q4; go_simp; try with_reducible rfl)
      try simp only [aS]
      refine tw 2 43 J0 ?_ (hy := by intro w' hSw; have p0 := hSw.c x0; have p1 := hSw.c q1; have p2 := hSw.c q2; have p3 := hSw.c q3; have p4 := hSw.c q4; go_simp; try with_reducible rfl)
      try simp only [aS]
      refine tw 3 44 J0 ?_ (hy := by intro w' hSw; have p0 := hSw.c x0; have p1 := hSw.c q1; have p2 := hSw.c q2; have p3 := hSw.c q3; have p4 := hSw.c q4; go_simp; try with_reducible rfl)
      try simp only [aS]
      refine tw 4 45 J0 ?_ (hy := by intro w' hSw; have p0 := hSw.c x0; have p1 := hSw.c q1; have p2 := hSw.c q2; have p3 := hSw.c q3; have p4 := hSw.c q4; go_simp; try with_reducible rfl)
      try simp only [aS]
      refine tw 5 46 J0 ?_ (hy := by intro w' hSw; have p0 := hSw.c x0; have p1 := hSw.c q1; have p2 := hSw.c q2; have p3 := hSw.c q3; have p4 := hSw.c q4; go_simp; try with_reducible rfl)
      try simp only [aS]
      refine wpAnyH_ready (rs := [6]) (by kernel_rfl) (by simp) ?_
      refine AllReadyH.cons rfl (fun K hK => ?_) AllReadyH.nil
      go_simp
      refine (rwater_any A c _ ws r.wa dw _ (HK.out.up (S.out.bel.trans ((BelS.b J0).mono S.out.bel.size)).size (S.out.bel.trans ((BelS.b J0).mono S.out.bel.size))) (Q.out.up (BelS.b J0).size (BelS.b J0)) HW.out HDW.out).mono ?_
      rintro e wq1 ⟨rfl, hq1⟩
      have J1 := J0.below hq1
      clear hq1
      refine hK.out _ _ J1 (fun _ => ?_)
      clear hK
      try simp only [aS]
      refine tw 7 9 J1 ?_ (hy := by intro w' hSw; have p0 := hSw.c x0; have p1 := hSw.c q1; have p2 := hSw.c q2; have p3 := hSw.c q3; have p4 := hSw.c q4; go_simp; try with_reducible rfl)
      try simp only [aS]
      refine wpAnyH_done (by kernel_rfl) ?_ _
      have B1 := Lib.hid (BelS.b J1)
      have S1 := Lib.hid (S.out.below B1.out)
      have R1 := Lib.hid (R.out.below B1.out)
      have O1 := Lib.hid (O.out.below B1.out)
      have QR := Lib.hid (And.intro q1 (And.intro q2 (And.intro q3 q4)))
      clear J0 J1 x0 q1 q2 q3 q4 S R O
      by_cases hw0 : dw = 0
      rotate_left
      · have hdwb : (dw != 0) = true := by rw [bne_iff_ne]; exact hw0
        have E1 : Hid (¬ WaOk ws r.wa ∧ dw = 1) := Lib.hid (by rcases HDW.out with ⟨_, h⟩ | h; exact absurd h hw0; exact h)
        have E : Hid (d = 1) := Lib.hid (HBAD.out (fun h => E1.out.1 h.2))
        have r0 := R1.out.c0
        have r1 := R1.out.c1
        have r2 := R1.out.f0
        have r3 := R1.out.f1
        go_wp2_with fail
        obtain ⟨X, hX, p0, p1, bb, gg⟩ := R1.out.ret S1.out.bel (by omega) (.slice none 0 0) dw
        rw [hX]
        clear hX
        refine bodyPost_ret (v := .agg #[.slice none 0 0, .int .i64 dw]) (by simp [results, Try.results73, go_sem, p0, p1]) rfl ?_
        exact ⟨_, by rw [E.out, E1.out.2], by rw [E.out, okL_ne (by decide)]; exact OwnG.nil _ _ _ _ _, bb⟩
      subst hw0
      have HWA : Hid (WaOk ws r.wa) := Lib.hid (by rcases HDW.out with ⟨h, _⟩ | ⟨_, h⟩; exact h; exact absurd h (by decide))
      go_upto_region 16 with fail
      have x0 := S1.out.wk
      have q1 := BelS.c B1.out QR.out.1
      have q2 := BelS.c B1.out QR.out.2.1
      have q3 := BelS.c B1.out QR.out.2.2.1
      have q4 := BelS.c B1.out QR.out.2.2.2
      have Q1 := Lib.hid (Q.out.up B1.out.size B1.out)
      refine wp_region_held_drew (S := BelS wq1) (by kernel_rfl) (BelS.drew0 _) (fun J0 => ?_)
      refine tw 0 52 J0 ?_ (hy := by intro w' hSw; have p0 := hSw.c x0; have p1 := hSw.c q1; have p2 := hSw.c q2; have p3 := hSw.c q3; have p4 := hSw.c q4; go_simp; try with_reducible rfl)
      try simp only [aS]
      refine tw 1 53 J0 ?_ (hy := by intro w' hSw; have p0 := hSw.c x0; have p1 := hSw.c q1; have p2 := hSw.c q2; have p3 := hSw.c q3; have p4 := hSw.c q4; go_simp; try with_reducible rfl)
      try simp only [aS]
      refine tw 2 54 J0 ?_ (hy := by intro w' hSw; have p0 := hSw.c x0; have p1 := hSw.c q1; have p2 := hSw.c q2; have p3 := hSw.c q3; have p4 := hSw.c q4; go_simp; try with_reducible rfl)
      try simp only [aS]
      refine tw 3 55 J0 ?_ (hy := by intro w' hSw; have p0 := hSw.c x0; have p1 := hSw.c q1; have p2 := hSw.c q2; have p3 := hSw.c q3; have p4 := hSw.c q4; go_simp; try with_reducible rfl)
      try simp only [aS]
      refine tw 4 56 J0 ?_ (hy := by intro w' hSw; have p0 := hSw.c x0; have p1 := hSw.c q1; have p2 := hSw.c q2; have p3 := hSw.c q3; have p4 := hSw.c q4; go_simp; try with_reducible rfl)
      try simp only [aS]
      refine tw 5 57 J0 ?_ (hy := by intro w' hSw; have p0 := hSw.c x0; have p1 := hSw.c q1; have p2 := hSw.c q2; have p3 := hSw.c q3; have p4 := hSw.c q4; go_simp; try with_reducible rfl)
      try simp only [aS]
      refine wpAnyH_ready (rs := [6]) (by kernel_rfl) (by simp) ?_
      refine AllReadyH.cons rfl (fun K hK => ?_) AllReadyH.nil
      go_simp
      refine (rflow_any A c _ ws r.wa _ (HK.out.up (S1.out.bel.trans ((BelS.b J0).mono S1.out.bel.size)).size (S1.out.bel.trans ((BelS.b J0).mono S1.out.bel.size))) (Q1.out.up (BelS.b J0).size (BelS.b J0)) HW.out HWA.out).mono ?_
      rintro e wq2 ⟨v1, v2, rfl, u1, u2, hq2⟩
      have J2 := J0.below hq2
      obtain ⟨U1, d1, rfl, -⟩ := u1.form
      obtain ⟨U2, d2, rfl, -⟩ := u2.form
      have hl1 : (flowF ws r.wa).thr.length = n := by rw [← HN.out]; exact thr_len ws _ _ (Nat.le_refl _)
      have U := Lib.hid (u1.rr EI (by rw [hl1]; show n ≤ 1000000000000000; omega))
      obtain ⟨L, hL⟩ : ∃ L, (flowF ws r.wa).lost = L := ⟨_, rfl⟩
      obtain ⟨m2, hm2⟩ : ∃ L, (tailsL ws r.wa).length = L := ⟨_, rfl⟩
      rw [hl1] at U ⊢
      rw [hL, hm2]
      have fl := fun W => fl_field0 U1 U2 n d1 m2 d2 L W
      have HUB : Hid (∀ q, (Value.slice U1 n d1).ownBlock = some q → wq1.heap.size ≤ q) := Lib.hid (fun q hq => Nat.le_trans (BelS.b J0).size (u1.lt q (by rw [hl1]; exact hq)).1)
      have HGL : Hid (g < wq1.heap.size) := Lib.hid (O1.out.lt g rfl).2
      clear hq2 u1 u2 hL hm2 hl1
      refine hK.out _ _ J2 (fun _ => ?_)
      clear hK
      try simp only [aS]
      refine tw 7 59 J2 ?_ (hy := by intro w' hSw; have fl1 := fl w'; go_simp; try with_reducible rfl)
      try simp only [aS]
      refine tw 8 10 J2 ?_ (hy := by intro w' hSw; go_simp; try with_reducible rfl)
      try simp only [aS]
      refine wpAnyH_done (by kernel_rfl) ?_ _
      have B2 := Lib.hid (BelS.b J2)
      have S2 := Lib.hid (S1.out.below B2.out)
      have R2 := Lib.hid (R1.out.below B2.out)
      have O2 := Lib.hid (O1.out.below B2.out)
      have M2 : Hid (wq2.cell? ⟨b, o + j * 5, none⟩ = some (.int .i64 r.mn)) := Lib.hid (by
        obtain ⟨b', o', e', _, m0, _⟩ := rn_at (HL.out.up S2.out.bel.size S2.out.bel) HR.out
        cases e'
        exact m0)
      have HBW : Hid (b < w.heap.size) := Lib.hid (by
        obtain ⟨b', o', e', m1, _⟩ := rn_at HL.out HR.out
        cases e'
        exact m1)
      clear J0 J2 x0 q1 q2 q3 q4 S1 R1 O1 fl
      go_wp2_with fail
      go_loopw [11] (fun a wr => ∃ k : Nat, a = .int .i64 k ∧ k ≤ n ∧ OwnG encI 1 3 g (.slice (some ⟨g, 0, none⟩) n n) ((List.range n).map fun i => if i < k then drunkAt ws l i (j + 1) else drunkAt ws l i j) wr ∧ WC1 w (.slice A ws.length c) wr ∧ R2B (w.heap.size + 1) wr ∧ GrownL [g] wq2 wr) (fun a _ => n - (intOf a).toNat)
      case atStart => exact ⟨0, rfl, by omega, by simpa using O2.out, S2.out, R2.out, GrownL.refl _ _⟩
      case round =>
        obtain ⟨k, rfl, hk, hO, hS, hR, hG⟩ := hrel
        have S := Lib.hid hS
        have O := Lib.hid hO
        have R := Lib.hid hR
        have G := Lib.hid hG
        clear hS hO hR hG
        by_cases hkl : k < n
        · have hk0 : (k : Int) < (n : Int) := by omega
          have hlx : (flowF ws r.wa).thr.length = n := by rw [← HN.out]; exact thr_len ws _ _ (Nat.le_refl _)
          obtain ⟨x, hx⟩ : ∃ x, (flowF ws r.wa).thr[k]? = some x := ⟨_, List.getElem?_eq_getElem (by omega)⟩
          have hgd : (flowF ws r.wa).thr.getD k 0 = x := by rw [List.getD_eq_getElem?_getD, hx]; rfl
          have hb1 := thr_b HW.out HWA.out k
          rw [hgd] at hb1
          have hb3 := mul_b hb1.1 hb1.2 (m := r.mn) (by omega) (by omega)
          rw [Int.mul_comm] at hb3
          have hb2 := drunk_b2 HW.out k j HP.out
          obtain ⟨bf, of, rfl, -, q5'⟩ := U.out.int hx
          have hbf := HUB.out bf rfl
          have hgl := HGL.out
          have hgw := HG.out
          have hbw := HBW.out
          have q5 := G.out.cell q5' (by simp; omega)
          have m0 := G.out.cell M2.out (by simp; omega)
          have ow' := O.out
          unfold OwnG at ow'
          have hlen : ((List.range n).map fun i => if i < k then drunkAt ws l i (j + 1) else drunkAt ws l i j).length = n := by simp
          rw [hlen] at ow'
          obtain ⟨z, hz⟩ : ∃ z, drunkAt ws l k j = z := ⟨_, rfl⟩
          have hat : (((List.range n).map fun i => if i < k then drunkAt ws l i (j + 1) else drunkAt ws l i j).flatMap encI)[k]? = some (.int .i64 z) := by
            have hg0 : ((List.range n).map fun i => if i < k then drunkAt ws l i (j + 1) else drunkAt ws l i j)[k]? = some z := by
              rw [List.getElem?_map, List.getElem?_range hkl]
              simp [hz]
            have := EI.at_ _ k 0 z hg0 (by decide)
            rw [Nat.mul_one, Nat.add_zero] at this
            exact this.trans rfl
          have u0 : wr.cell? ⟨g, k, none⟩ = some (.int .i64 z) := (World.ownsRow.cellAt ow' k (by omega)).trans hat
          have u1 := World.ownsRow.frozenAt ow' k
          rw [hz] at hb2
          have HZZ := Lib.hid hz
          have HGD := Lib.hid hgd
          have hjb : (j : Int) ≤ 60 := by omega
          have hw1 : IntKind.i64.wrap (r.mn * x) = r.mn * x := IntWalk.i64_in _ (by omega)
          have hw2 : IntKind.i64.wrap (z + r.mn * x) = z + r.mn * x := IntWalk.i64_in _ (by omega)
          clear ow' hlen hat hz hgd hx hlx q5'
          go_upto_region 20 with fail
          go_region
          obtain ⟨Y, hY⟩ : ∃ Y, wr.setCell ⟨g, k, none⟩ (.int .i64 (z + r.mn * x)) = Y := ⟨_, rfl⟩
          have gY : GrownL [g] wr Y := by rw [← hY]; exact GrownL.set _ _ _ (by simp)
          have oY := OwnG.set1 O.out (by simp) k (z + r.mn * x)
          rw [hY, range_set] at oY
          rw [hY]
          have dY : Below Y.heap.size Y Y.drew := (Below.refl _ _).drew
          have SY : Hid (WC1 w (.slice A ws.length c) Y.drew) := Lib.hid (WC1.below ⟨gY.cell S.out.wk (by simp; omega), S.out.bel.trans (gY.below (by simp; omega) S.out.bel.size)⟩ dY)
          have OY := Lib.hid (oY.below dY)
          have RY : Hid (R2B (w.heap.size + 1) Y.drew) := Lib.hid (R2B.below ⟨gY.cell R.out.c0 (by simp; omega), gY.cell R.out.c1 (by simp; omega), (World.frozen?_of_block (gY.block _ R.out.lt (by simp; omega))).trans R.out.f0, (World.frozen?_of_block (gY.block _ R.out.lt (by simp; omega))).trans R.out.f1⟩ dY)
          have GY := Lib.hid ((G.out.trans gY).trans (GrownL.of_below (bs := [g]) dY))
          clear hY gY oY dY q5 m0 u0 u1 hw1 hw2
          go_wp2_with fail
          go_roundw
          case rel => exact ⟨k + 1, by go_num, by omega, by
            have e1 : ((List.range n).map fun i => if i < k + 1 then drunkAt ws l i (j + 1) else drunkAt ws l i j) = (List.range n).map fun i => if i = k then z + r.mn * x else if i < k then drunkAt ws l i (j + 1) else drunkAt ws l i j := List.map_congr_left (fun i hi => by
              by_cases e : i = k
              · subst e
                rw [if_pos (by omega), if_pos rfl, drunkAt_succ _ HR.out, HGD.out, HZZ.out, Int.mul_comm]
              · rw [if_neg e]
                by_cases e2 : i < k
                · rw [if_pos e2, if_pos (by omega)]
                · rw [if_neg e2, if_neg (by omega)])
            rw [e1]
            exact OY.out, SY.out, RY.out, GY.out⟩
          case measure => show n - ((k : Int) + 1).toNat < n - (k : Int).toNat; omega
        · have hk0 : (n : Int) ≤ (k : Int) := by omega
          have HOKR : Hid (RnOk ws r) := Lib.hid ⟨hm, HWA.out⟩
          go_wp2_with fail
          go_roundw
          case rel => exact ⟨j + 1, by go_num, by omega, fun i r' hi hr' => by
            rcases Nat.lt_or_ge i j with h | h
            · exact HP.out i r' h hr'
            · obtain rfl : i = j := by omega
              have hrr := HR.out
              rw [hrr] at hr'
              cases hr'
              exact HOKR.out, by
            have e1 : ((List.range n).map fun i => if i < k then drunkAt ws l i (j + 1) else drunkAt ws l i j) = (List.range n).map fun i => drunkAt ws l i (j + 1) := List.map_congr_left (fun i hi => by rw [List.mem_range] at hi; rw [if_pos (by omega)])
            rw [← e1]
            exact O.out, S.out, R.out⟩
          case measure => show l.length - ((j : Int) + 1).toNat < l.length - (j : Int).toNat; omega
    · have hj0 : (l.length : Int) ≤ (j : Int) := by omega
      obtain rfl : j = l.length := by omega
      have E : Hid (d = 0) := Lib.hid (by
        rcases HCS.out with ⟨h, _⟩ | ⟨_, h, _⟩ | ⟨_, _, h⟩
        · omega
        · exact absurd (fun i r hr => HP.out i r (by have := (List.getElem?_eq_some_iff.1 hr).1; omega) hr) h
        · exact h)
      have r0 := R.out.c0
      have r1 := R.out.c1
      have r2 := R.out.f0
      have r3 := R.out.f1
      go_wp2_with fail
      obtain ⟨X, hX, p0, p1, bb, gg⟩ := R.out.ret S.out.bel (by omega) (.slice (some ⟨g, 0, none⟩) n n) 0
      rw [hX]
      clear hX
      refine bodyPost_ret (v := .agg #[.slice (some ⟨g, 0, none⟩) n n, .int .i64 0]) (by simp [results, Try.results73, go_sem, p0, p1]) rfl ?_
      have hgw := HG.out
      exact ⟨_, by rw [E.out], by
        rw [E.out, okL_zero]
        unfold drunkL
        rw [HN.out]
        exact (O.out.grown gg (fun q hq hm => by cases hq; simp at hm; omega)).low (by omega), bb⟩
end Go.Proofs.Ytkoacclbempmdaa

/- A list and an error in a block of their own. -/
namespace Go.Proofs.Ytkoacclbempmdaa
open Go.RowKit

/-- A list and an error in a block of their own. -/
structure In2 (g : Nat) (u : Value) (d : Int) (W : World) : Prop where
  l : W.cell? ⟨g, 0, none⟩ = some u
  e : W.cell? ⟨g, 1, none⟩ = some (.int .i64 d)
theorem In2.below {g : Nat} {u : Value} {d : Int} {W W' : World} (h : In2 g u d W) (hb : Below W.heap.size W W') : In2 g u d W' :=
  have hl := World.block_lt_of_cell? _ _ h.l
  ⟨(hb.cell (p := ⟨g, 0, none⟩) hl).trans h.l, (hb.cell (p := ⟨g, 1, none⟩) hl).trans h.e⟩
theorem In2.new (u : Value) (d : Int) (w : World) : In2 w.heap.size u d (w.alloc (.cells #[u, .int .i64 d] 86)) := ⟨by simp [go_sem], by simp [go_sem]⟩
theorem own_list {base : Nat} {u : Value} {l : List Int} {W : World} (h : OwnG encI 1 3 base u l W) : ∃ A c, u = .slice A l.length c := by obtain ⟨A, c, e, -⟩ := h.form; exact ⟨A, c, e⟩

end Go.Proofs.Ytkoacclbempmdaa

/- The law CarrierDrinks, by its walk. -/
namespace Go.Proofs.Ytkoacclbempmdaa
open Go.RowKit

set_option maxHeartbeats 16000000 in
set_option maxRecDepth 1000000 in
theorem drinks_law (A : Option Addr) (c : Nat) (lv : Value) (ws : Wk) (l : List Rn) (w : World) (h : RK w.heap.size (.slice A ws.length c) ws w) (hl : RN w.heap.size lv l w) :
    Calls Try.prog 16 #[.agg #[.slice A ws.length c], lv] w fun e w' => e = .returned (.bool true) ∧ Below w.heap.size w w' := by
  obtain ⟨Al, cl, rfl⟩ := hl.form
  have H := Lib.hid h
  have HL := Lib.hid hl
  have S := Lib.hid (WC1.new w (.slice A ws.length c))
  obtain ⟨d, hd⟩ := CourseIs.exists_ ws l
  have HD := Lib.hid hd
  clear h hl hd
  go_enter Try.func16, Try.ntmps16
  have xx0 := S.out.wk
  go_wp2_with fail
  refine (few_any A ws.length c ws _ (H.out.up S.out.bel.size S.out.bel)).mono ?_
  rintro e wc1 ⟨b, rfl, hfew, bb⟩
  replace S := Lib.hid (S.out.below bb)
  clear bb xx0
  cases b
  · clear hfew
    go_wp2_with fail
    refine (sanity_any _).mono ?_
    rintro e wz ⟨rfl, bz⟩
    have SZ := Lib.hid (S.out.below bz)
    clear bz
    go_wp2_with fail
    go_ret
    exact ⟨rfl, SZ.out.bel⟩
  have HT : Hid (total ws ≤ 90 ∧ ws.length ≤ 30) := Lib.hid (by have := hfew (by trivial); have h1 := this.1; have h2 := this.2.1; omega)
  clear hfew
  go_wp2_with fail
  refine (runs_any _ l _ (HL.out.up S.out.bel.size S.out.bel)).mono ?_
  rintro e wc2 ⟨b, rfl, -, bb⟩
  replace S := Lib.hid (S.out.below bb)
  clear bb 
  cases b
  · skip
    go_wp2_with fail
    refine (sanity_any _).mono ?_
    rintro e wz ⟨rfl, bz⟩
    have SZ := Lib.hid (S.out.below bz)
    clear bz
    go_wp2_with fail
    go_ret
    exact ⟨rfl, SZ.out.bel⟩
  have xx0 := S.out.wk
  go_wp2_with fail
  refine (Drunk_any _ _ ws l d _ (H.out.up S.out.bel.size S.out.bel) (by have := HT.out; omega) (HL.out.up S.out.bel.size S.out.bel) HD.out).mono ?_
  rintro e wc3 ⟨u1, rfl, oo, bb⟩
  replace S := Lib.hid (S.out.below bb)
  have hlen : (okL d (drunkL ws l)).length ≤ 100 := by unfold okL; split <;> simp [drunkL_len]; have := HT.out; omega
  obtain ⟨L1, hL1⟩ : ∃ L, okL d (drunkL ws l) = L := ⟨_, rfl⟩
  rw [hL1] at oo hlen
  have HL1 := Lib.hid hL1
  have N1 := Lib.hid hlen
  clear hL1 hlen
  obtain ⟨U1, uc1, rfl⟩ := own_list oo
  have U_1 := Lib.hid oo
  clear bb xx0 oo
  have xx0 := S.out.wk
  go_wp2_with fail
  refine (rDrunk_any _ _ ws l d _ (H.out.up S.out.bel.size S.out.bel) (by have := HT.out; omega) (HL.out.up S.out.bel.size S.out.bel) HD.out).mono ?_
  rintro e wc4 ⟨v1, rfl, oo, bb⟩
  replace S := Lib.hid (S.out.below bb)
  replace U_1 := Lib.hid (U_1.out.below bb)
  rw [HL1.out] at oo
  obtain ⟨V1, vc1, rfl⟩ := own_list oo
  have V_1 := Lib.hid oo
  clear bb xx0 oo
  obtain ⟨wc5, hwc5⟩ : ∃ W, wc4.alloc (.cells #[.slice V1 L1.length vc1, .int .i64 d] 86) = W := ⟨_, rfl⟩
  have bb : Below wc4.heap.size wc4 wc5 := by rw [← hwc5]; exact (Below.refl _ _).alloc (Nat.le_refl _) _
  replace S := Lib.hid (S.out.below bb)
  replace U_1 := Lib.hid (U_1.out.below bb)
  replace V_1 := Lib.hid (V_1.out.below bb)
  have I_1 : Hid (In2 wc4.heap.size (.slice V1 L1.length vc1) d wc5) := Lib.hid (by rw [← hwc5]; exact ⟨by simp [go_sem], by simp [go_sem]⟩)
  have Hwc5 := Lib.hid hwc5
  clear bb hwc5
  go_upto_region 5 with fail
  rw [Hwc5.out]
  go_wp2_with fail
  refine (sanity_any _).mono ?_
  rintro e wz ⟨rfl, bb⟩
  replace S := Lib.hid (S.out.below bb)
  replace U_1 := Lib.hid (U_1.out.below bb)
  replace V_1 := Lib.hid (V_1.out.below bb)
  replace I_1 := Lib.hid (I_1.out.below bb)
  clear bb
  have y0 := I_1.out.l
  have y1 := I_1.out.e
  go_wp2_with fail
  refine (sameInts_any (.slice U1 L1.length uc1) (.slice V1 L1.length vc1) L1 _ (U_1.out.rr EI (by have := N1.out; show L1.length ≤ 1000000000000000; omega)) (V_1.out.rr EI (by have := N1.out; show L1.length ≤ 1000000000000000; omega)) (by have := N1.out; omega)).mono ?_
  rintro e wq ⟨rfl, bb⟩
  have SZ := Lib.hid (S.out.below bb)
  have y2 := BelS.c bb y1
  clear bb y0 y1
  go_wp2_with fail
  go_ret
  exact ⟨by first | rfl | simp, SZ.out.bel⟩
end Go.Proofs.Ytkoacclbempmdaa

/- How a course that came in is opened. -/
namespace Go.Proofs.Ytkoacclbempmdaa
open Go.ChangeShapes Go.WideShapes Go.ChangeAt Go.RowKit Go.Joins
instance : Inhabited Rn := ⟨⟨0, ⟨[], [], [], []⟩⟩⟩
theorem qcellsR : Try.prog.cellsOf 78 = 5 := by kernel_rfl
theorem pbR : 0 < Try.prog.bytesOf 78 := by decide +kernel
section
variable {H : Type} {enc : TypeId × Value → H} {W : World} {base : Nat} {sp : Nat → Bool}
set_option maxRecDepth 100000 in
set_option maxHeartbeats 1000000 in
/-- Water in its cells. -/
theorem wat_of {fuel : Nat} {u0 u1 u2 u3 : Value} {x : DataW H × List MemPlace} (h2 : DataW.trod enc Try.prog W base sp true fuel 27 [u0, u1, u2, u3] = some x) (hw : WB 27 x.1) : ∃ s : Wa, RWa W.heap.size (.agg #[u0, u1, u2, u3]) s W := by
  obtain ⟨xs, m, _, ex, _, hxl, hf⟩ := DataW.trod_struct Try.underlying27 h2
  obtain ⟨x0, e0⟩ : ∃ y, xs[0]? = some y := ⟨_, List.getElem?_eq_getElem (by rw [hxl]; decide)⟩
  obtain ⟨x1, e1⟩ : ∃ y, xs[1]? = some y := ⟨_, List.getElem?_eq_getElem (by rw [hxl]; decide)⟩
  obtain ⟨x2, e2⟩ : ∃ y, xs[2]? = some y := ⟨_, List.getElem?_eq_getElem (by rw [hxl]; decide)⟩
  obtain ⟨x3, e3⟩ : ∃ y, xs[3]? = some y := ⟨_, List.getElem?_eq_getElem (by rw [hxl]; decide)⟩
  have q0 : DataW.trod enc Try.prog W base sp true m 25 (([u0, u1, u2, u3].drop 0).take (Try.prog.cellsOf 25)) = xs[0]? := hf 0 _ rfl
  have q1 : DataW.trod enc Try.prog W base sp true m 25 (([u0, u1, u2, u3].drop 1).take (Try.prog.cellsOf 25)) = xs[1]? := hf 1 _ rfl
  have q2 : DataW.trod enc Try.prog W base sp true m 25 (([u0, u1, u2, u3].drop 2).take (Try.prog.cellsOf 25)) = xs[2]? := hf 2 _ rfl
  have q3 : DataW.trod enc Try.prog W base sp true m 25 (([u0, u1, u2, u3].drop 3).take (Try.prog.cellsOf 25)) = xs[3]? := hf 3 _ rfl
  rw [qcellsI, e0] at q0
  rw [qcellsI, e1] at q1
  rw [qcellsI, e2] at q2
  rw [qcellsI, e3] at q3
  rw [ex] at hw
  have hw' := hw.agg Try.underlying27
  obtain ⟨A0, c0, l0, rfl, r0⟩ := ints_open q0 (hw' 0 _ x0.1 rfl (by rw [List.getElem?_map, e0]; rfl))
  obtain ⟨A1, c1, l1, rfl, r1⟩ := ints_open q1 (hw' 1 _ x1.1 rfl (by rw [List.getElem?_map, e1]; rfl))
  obtain ⟨A2, c2, l2, rfl, r2⟩ := ints_open q2 (hw' 2 _ x2.1 rfl (by rw [List.getElem?_map, e2]; rfl))
  obtain ⟨A3, c3, l3, rfl, r3⟩ := ints_open q3 (hw' 3 _ x3.1 rfl (by rw [List.getElem?_map, e3]; rfl))
  exact ⟨⟨l0, l1, l2, l3⟩, _, _, _, _, rfl, r0.rr, r1.rr, r2.rr, r3.rr⟩
set_option maxRecDepth 100000 in
set_option maxHeartbeats 1000000 in
/-- Runs. -/
theorem runs_row {fuel : Nat} {v : Value} {y : DataW H × List MemPlace} (h : DataW.trod enc Try.prog W base sp true fuel 74 [v] = some y) (hw : WB 74 y.1) : ∃ l : List Rn, RN W.heap.size v l W := by
  obtain ⟨A, c, l, e, hf, hr⟩ := row_open (α := Rn) Try.underlying74 qcellsR (by decide) pbR (fun x b o => RnAt W.heap.size b o x W) (fun fuel a x hwx hx => by
    obtain ⟨cs, hl, hc, h2⟩ := cells_of hx
    obtain ⟨xs, m, _, ex, _, hxl, hf⟩ := DataW.trod_struct Try.underlying78 h2
    match cs, hl with
    | [u0, u1, u2, u3, u4], _ =>
      obtain ⟨x0, e0⟩ : ∃ y, xs[0]? = some y := ⟨_, List.getElem?_eq_getElem (by rw [hxl]; decide)⟩
      obtain ⟨x1, e1⟩ : ∃ y, xs[1]? = some y := ⟨_, List.getElem?_eq_getElem (by rw [hxl]; decide)⟩
      have q0 : DataW.trod enc Try.prog W base sp true m 3 (([u0, u1, u2, u3, u4].drop 0).take (Try.prog.cellsOf 3)) = xs[0]? := hf 0 _ rfl
      have q1 : DataW.trod enc Try.prog W base sp true m 27 (([u0, u1, u2, u3, u4].drop 1).take (Try.prog.cellsOf 27)) = xs[1]? := hf 1 _ rfl
      rw [qcells3, e0] at q0
      rw [qcellsA, e1] at q1
      obtain ⟨i0, p0, _⟩ := DataW.trod_int Try.underlying3 q0
      simp at p0
      subst p0
      have hw1 : WB 27 x1.1 := by
        rw [ex] at hwx
        exact hwx.agg Try.underlying78 1 _ x1.1 rfl (by rw [List.getElem?_map, e1]; rfl)
      obtain ⟨s, hs1⟩ := wat_of q1 hw1
      have h0 := hc 0 (by decide)
      rw [Addr.add_zero'] at h0
      refine ⟨⟨i0, s⟩, ⟨_, h0.trans rfl⟩, fun hs => ?_⟩
      have had := add_plain hs
      obtain ⟨b, o, z⟩ := a
      simp only at hs
      subst hs
      have hcell : ∀ k u, [Value.int .i64 i0, u1, u2, u3, u4][k]? = some u → k < 5 → W.cell? ⟨b, o + k, none⟩ = some u := fun k u hu hk => by
        have := hc k hk
        rw [had] at this
        exact this.trans hu
      exact ⟨h0.trans rfl, u1, u2, u3, u4, hcell 1 _ rfl (by decide), hcell 2 _ rfl (by decide), hcell 3 _ rfl (by decide), hcell 4 _ rfl (by decide), hs1⟩) h hw
  exact ⟨l, A, c, e, hf, hr⟩
set_option maxRecDepth 100000 in
/-- A course that came in. -/
theorem runs_open {b0 : Nat} {v : Value} {d : DataW H} {p : List MemPlace} (hv : Value.okWide Try.prog W .any b0 74 v) (h : DataW.Trod enc Try.prog W base sp true 74 v d p) (hw : WB 74 d) : ∃ l : List Rn, RN W.heap.size v l W := by
  obtain ⟨a, len, cap, rfl⟩ := okWide_slice Try.underlying74 hv
  obtain ⟨n, h⟩ := h
  exact runs_row (y := (d, p)) h hw
end
end Go.Proofs.Ytkoacclbempmdaa

/- The law CarrierDrinks holds for every input: the row. -/
namespace Go.Proofs.Ytkoacclbempmdaa
open Go.ChangeShapes Go.WideShapes Go.ChangeAt Go.RowKit Go.Joins

namespace carrierDrinks
def wargs : Array Value := #[.agg #[.slice none 0 0], .slice none 0 0]
theorem laid_met (os : Os) : laidMet Try.prog Rows.carrierDrinksRow.laid ((World.holding Try.prog os ⟨#[], #[], []⟩).forCall (fun _ _ => 0) ⟨#[], wargs, []⟩).memory :=
  laidMet_of_run' 8 (by kernel_rfl) (by kernel_rfl)
theorem reads (os : Os) {H : Type} (enc : TypeId × Value → H) : ∃ places, DataW.whole enc Try.prog ((World.holding Try.prog os ⟨#[], #[], []⟩).forCall (fun _ _ => 0) ⟨#[], wargs, []⟩).memory Try.f16.params.toList Rows.carrierDrinksSpec.vars false wargs.toList 8 = some ([.agg [.nil], .nil], [], places) :=
  ⟨[], by kernel_rfl⟩

set_option maxHeartbeats 1000000 in
set_option maxRecDepth 100000 in
/-- What the walk gives, for every argument. -/
theorem contract (H : Type) (enc : TypeId × Value → H) (W : World) (base : Nat) (args : Array Value) (ds gs : List (DataW H)) (before : List MemPlace)
    (hval : ∀ (j : Nat) t v, Try.f16.params[j]? = some t → args[j]? = some v → Value.okWide Try.prog W .any base t v)
    (hW : DataW.Whole enc Try.prog Try.f16.params.toList Rows.carrierDrinksSpec.vars false W args.toList ds gs before)
    (hwt : (DataW.weightsEach Try.prog (Try.f16.params.toList ++ DataSpec.varTypes Try.prog (OpenSpec.ofChange Rows.carrierDrinksSpec).bare.plain) (ds ++ gs)).all (· ≤ reachBytes) = true) :
    Calls Try.prog 16 args W fun e W' => ∃ v, e = .returned v ∧ Rows.carrierDrinksSpec.post enc Try.prog Try.f16 false true false false W args v W' := by
  have hW' := hW
  obtain ⟨p, q, hA0, hV, rfl, hfz, hnd⟩ := hW
  have hA : DataW.TrodAll enc Try.prog W 0 (fun _ => true) true Try.f16.params.toList args.toList ds p := hA0
  have hAk := hA
  have hsize : ∀ t ∈ Try.f16.params.toList, t < Try.prog.types.size := by rw [Try.params16]; decide +kernel
  have hwt' := hwt
  rw [Try.params16] at hA hval hwt'
  obtain ⟨v0, vs0, d0, ds0, p0, q0, hargs, rfl, rfl, h0, r0⟩ := trodAll_cons hA
  obtain ⟨v1, vs1, d1, ds1, p1, q1, rfl, rfl, rfl, h1, r1⟩ := trodAll_cons r0
  obtain ⟨rfl, rfl, rfl⟩ := trodAll_nil r1
  obtain rfl : args = #[v0, v1] := by cases args; simp_all
  obtain ⟨rfl, rfl⟩ := trodVars_none hV
  obtain ⟨A, c, ws, rfl, hk⟩ := works_open (hval 0 24 v0 rfl rfl) h0 (WB.each _ _ hwt' 0 _ _ rfl rfl)
  obtain ⟨s1, hs1⟩ := runs_open (hval 1 74 v1 rfl rfl) h1 (WB.each _ _ hwt' 1 _ _ rfl rfl)
  have hcall := drinks_law A c v1 ws s1 W hk hs1
  refine hcall.mono fun e W' ⟨he, hb⟩ => ?_
  subst he
  refine ⟨_, rfl, _, _, _, [], _, [], hW', ?_, args_again hb hsize hAk, ?_, hb.frame _, fun h => by cases h⟩
  · exact trodAll_cons_mk (shut_bool Try.underlying4 _) trodAll_mk0
  · rfl

set_option maxRecDepth 100000 in
theorem lifted (os : Os) (started : os.Started) (H : Type) (enc : TypeId × Value → H) (F : Stop.Interp) :
    ReturnsInHanded {} Try.checked os 16 .any ((OpenSpec.ofChange Rows.carrierDrinksSpec).preRow enc Try.prog Try.f16 Rows.carrierDrinksRow.domain false Rows.carrierDrinksRow.laid) (((OpenSpec.ofChange Rows.carrierDrinksSpec).at F).post enc Try.prog Try.f16 false true false false) := by
  obtain ⟨places, hx⟩ := reads os enc
  refine returnsInHanded_of_row (C := Try.checked) (s := OpenSpec.ofChange Rows.carrierDrinksSpec) own started (by kernel_rfl) Try.func16
    (witness_row_at (enc := enc) (C := Try.checked) false (World.holding Try.prog os ⟨#[], #[], []⟩) wargs rfl (by kernel_rfl) (by kernel_rfl) (by kernel_rfl)
      (OpenSpec.preRow_of_cond 8 hx (by kernel_rfl) (fun k hk => by cases hk) (by kernel_rfl) (laid_met os))) ?_
  intro W base args ds gs before hval hW _ _ hwt hL _ _
  exact contract H enc W base args ds gs before hval hW hwt

theorem said : Rows.CarrierDrinksSaid :=
  OpenClaim.holds_of_cond 16 Try.f16 rfl rfl rfl rfl rfl rfl rfl ⟨rfl, rfl, rfl, rfl, rfl⟩ rfl rfl rfl rfl rfl (by kernel_rfl) Try.func16 (by kernel_rfl)
    (of_decide_eq_true (by kernel_rfl)) (by unfold Func.isWrapper; first | (rw [if_pos (by decide +kernel)]; kernel_rfl) | (rw [if_neg (by decide +kernel)]; exact ⟨rfl, rfl⟩))
    (fun os started H enc _ F => by rw [OpenClaim.pre_eq_preRow]; exact lifted os started H enc F)
end carrierDrinks
theorem carrierDrinks_holds : Rows.CarrierDrinksSaid := carrierDrinks.said
end Go.Proofs.Ytkoacclbempmdaa
