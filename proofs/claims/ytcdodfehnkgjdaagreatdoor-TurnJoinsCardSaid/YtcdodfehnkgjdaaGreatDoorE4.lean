/- Contract of Count. -/
import Derived.Test.YtcdodfehnkgjdaaGreatDoorE3
namespace Go.Proofs.YtcdodfehnkgjdaaGreatDoor
open Go.RowKit
attribute [local go_sem] Oper.semAt_some

def CountIs (ts : List T3) (ss : List S2) (lo hi d r : Int) : Prop := (d ≠ 0 ∧ r = 0) ∨ (d = 0 ∧ r = cntH (setB (lotsOf ts ss)) lo (hi + 1 - lo).toNat)
theorem checkIs_ok {ts : List T3} {ss : List S2} (h : CheckIs ts ss 0) : ts.length ≤ 24 ∧ ss.length ≤ 40 ∧ AllOk ts ss := by
  rcases h with ⟨_, h⟩ | ⟨h1, h2, h3, _⟩ | ⟨_, _, _, h⟩
  · omega
  · exact ⟨h1, h2, h3⟩
  · omega
theorem inIs_ok {c lo hi : Int} (h : InIs c lo hi 0) : c = 0 ∧ SOk lo hi := by
  rcases h with ⟨h, e⟩ | ⟨h1, h2, _⟩ | ⟨_, _, h⟩
  · omega
  · exact ⟨h1, h2⟩
  · omega
theorem enters_runs1 (args : Array Value) (w : World) : (callFunc 73 args).run Tryz.prog w = .ok (.enter 73 args) w :=
  enters_of Tryz.func73 (by kernel_rfl) rfl args w

/-- What Count keeps between two runs. -/
def CountI (b : Nat) (w : World) (_ : List Nat) (pre : List S2) (W : World) : Prop :=
  W.cell? ⟨b, 0, none⟩ = some (.int .i64 (tot pre)) ∧ W.frozen? ⟨b, 0, none⟩ = false ∧ Below w.heap.size w W

set_option maxHeartbeats 4000000 in
set_option maxRecDepth 1000000 in
theorem count_ok (v : Value) (ts : List T3) (ss : List S2) (lo hi : Int) (w : World) (h : RM w.heap.size v ts ss w) (hc : CheckIs ts ss 0) (hs : SOk lo hi) :
    Calls Tryz.prog 21 #[v, sv2 lo hi] w fun e w' => e = .returned (.tuple #[.int .i64 (cntH (setB (lotsOf ts ss)) lo (hi + 1 - lo).toNat), .int .i64 0]) ∧ Below w.heap.size w w' := by
  obtain ⟨k1, k2, k3⟩ := checkIs_ok hc
  obtain ⟨s1, s2, s3⟩ := hs
  have H := Lib.hid h
  obtain ⟨A, m, ca, A', m', ca', rfl, h1, h2⟩ := h
  have hB2 := below_two w (.cells #[.slice A m ca, .slice A' m' ca'] 25) (.cells #[.int .i64 lo, .int .i64 hi] 45)
  have HB2 := Lib.hid hB2
  have C : Hid (∀ W, Below w.heap.size w W → w.heap.size ≤ W.heap.size → Calls Tryz.prog 53 #[.agg #[.slice A m ca, .slice A' m' ca'], sv2 lo hi] W fun e w' => e = .returned (.int .i64 0) ∧ Below W.heap.size W w') :=
    Lib.hid fun W hb hs => checkIn_any _ ts ss lo hi 0 0 W (H.out.up hs hb) hc (.inr (.inl ⟨rfl, ⟨s1, s2, s3⟩, rfl⟩))
  have HK3 := Lib.hid k3
  have HC := Lib.hid hc
  clear h1 h2 hB2 k3 hc
  refine (callsIn_wide (n := 3)).1 ?_
  refine callsIn_of_wp_marks Tryz.func21 rfl trivial ?_ rfl
  simp only [Tryz.ntmps21, List.size_toArray, List.length_cons, List.length_nil, Nat.reduceAdd, Nat.reduceSub, Array.replicate_succ, Array.replicate_zero, List.push_toArray, List.append_toArray, List.nil_append, List.cons_append]
  gi_wp2_with fail
  refine ⟨trivial, (callsIn_wide.2 (C.out _ HB2.out (by simp; omega))).mono ?_⟩
  rintro e w1 ⟨rfl, hb1⟩
  have hz := hb1.size
  have y0 : w1.cell? ⟨w.heap.size, 0, none⟩ = some (.slice A m ca) := (hb1.cell (p := ⟨w.heap.size, 0, none⟩) (by simp; omega)).trans (by simp [go_sem])
  have y1 : w1.cell? ⟨w.heap.size, 1, none⟩ = some (.slice A' m' ca') := (hb1.cell (p := ⟨w.heap.size, 1, none⟩) (by simp; omega)).trans (by simp [go_sem])
  have z0 : w1.cell? ⟨w.heap.size + 1, 0, none⟩ = some (.int .i64 lo) := (hb1.cell (p := ⟨w.heap.size + 1, 0, none⟩) (by simp)).trans (by simp [go_sem])
  have z1 : w1.cell? ⟨w.heap.size + 1, 1, none⟩ = some (.int .i64 hi) := (hb1.cell (p := ⟨w.heap.size + 1, 1, none⟩) (by simp)).trans (by simp [go_sem])
  have B1 := Lib.hid (HB2.out.trans (hb1.mono (by simp; omega)))
  have hl0 : w.heap.size < w1.heap.size := by simp at hz; omega
  have hl1 : w.heap.size + 1 < w1.heap.size := by simp at hz; omega
  have y0' : (w1.alloc (.cells #[.int .i64 0] 3)).cell? ⟨w.heap.size, 0, none⟩ = some (.slice A m ca) := (World.cell?_alloc_lt _ _ _ hl0).trans y0
  have y1' : (w1.alloc (.cells #[.int .i64 0] 3)).cell? ⟨w.heap.size, 1, none⟩ = some (.slice A' m' ca') := (World.cell?_alloc_lt _ _ _ hl0).trans y1
  have z0' : (w1.alloc (.cells #[.int .i64 0] 3)).cell? ⟨w.heap.size + 1, 0, none⟩ = some (.int .i64 lo) := (World.cell?_alloc_lt _ _ _ hl1).trans z0
  have z1' : (w1.alloc (.cells #[.int .i64 0] 3)).cell? ⟨w.heap.size + 1, 1, none⟩ = some (.int .i64 hi) := (World.cell?_alloc_lt _ _ _ hl1).trans z1
  clear hb1
  gi_wp2_with fail
  refine ⟨trivial, (callsIn_wide.2 (runs_any A m ca A' m' ca' lo hi _)).mono ?_⟩
  rintro e w2 ⟨rfl, rfl⟩
  gi_wp2_with fail
  have hrm2 := H.out.up (B' := w1.heap.size + 3) (by omega) (B1.out.trans ((((Below.refl w.heap.size w1).alloc (by omega) (.cells #[.int .i64 0] 3)).alloc (by simp; omega) (.cells #[.slice A m ca, .slice A' m' ca'] 25)).alloc (by simp; omega) (.cells #[.int .i64 lo, .int .i64 hi] 45)))
  have hb2 := B1.out.trans ((((Below.refl w.heap.size w1).alloc (by omega) (.cells #[.int .i64 0] 3)).alloc (by simp; omega) (.cells #[.slice A m ca, .slice A' m' ca'] 25)).alloc (by simp; omega) (.cells #[.int .i64 lo, .int .i64 hi] 45))
  obtain ⟨W0, hW0⟩ : ∃ W0, (((w1.alloc (.cells #[.int .i64 0] 3)).alloc (.cells #[.slice A m ca, .slice A' m' ca'] 25)).alloc (.cells #[.int .i64 lo, .int .i64 hi] 45)) = W0 := ⟨_, rfl⟩
  have hz0 : W0.heap.size = w1.heap.size + 3 := by rw [← hW0]; simp
  have a0 : W0.cell? ⟨w1.heap.size, 0, none⟩ = some (.int .i64 0) := by rw [← hW0]; simp [go_sem]
  have a1 : W0.frozen? ⟨w1.heap.size, 0, none⟩ = false := by rw [← hW0]; simp [go_sem]
  have a2 : W0.cell? ⟨w1.heap.size + 1, 0, none⟩ = some (.slice A m ca) := by rw [← hW0]; simp [go_sem]
  have a3 : W0.cell? ⟨w1.heap.size + 1, 1, none⟩ = some (.slice A' m' ca') := by rw [← hW0]; simp [go_sem]
  have a4 : W0.cell? ⟨w1.heap.size + 1 + 1, 0, none⟩ = some (.int .i64 lo) := by rw [← hW0]; simp [go_sem]
  have a5 : W0.cell? ⟨w1.heap.size + 1 + 1, 1, none⟩ = some (.int .i64 hi) := by rw [← hW0]; simp [go_sem]
  rw [hW0] at hrm2 hb2 ⊢
  have hbase : w.heap.size ≤ w1.heap.size := by omega
  refine wpIn_rangeO (gf := 73) (lb := #[.pointer (some ⟨w1.heap.size + 1, 0, none⟩), .pointer (some ⟨w1.heap.size + 1 + 1, 0, none⟩)]) rfl enters_runs1
    (runs_seq (w1.heap.size + 1) (w1.heap.size + 1 + 1) A m ca A' m' ca' ts ss lo hi W0 HK3.out k1 k2 (by rw [hz0]; exact hrm2) a2 a3 a4 a5 s1 (by omega) s3) (Below.refl _ _) (fun _ => rfl)
    (CountI w1.heap.size w) (fun _ _ _ _ => False) ?h0 ?hI (fun _ _ _ _ _ _ h _ => h) ?round ?done ?stop
  case h0 =>
    intro W' hb hsz
    exact ⟨(hb.cell (p := ⟨w1.heap.size, 0, none⟩) (by simp; omega)).trans a0, (hb.frozen (p := ⟨w1.heap.size, 0, none⟩) (by simp; omega)).trans a1, hb2.trans (hb.mono (by omega))⟩
  case hI =>
    rintro O O' s W1 W2 hO ⟨hc, hf, hB⟩ hg hcl
    have hn : w1.heap.size ∉ W0.heap.size :: (W0.heap.size + 1) :: O := by
      intro hm
      rcases List.mem_cons.1 hm with e | hm
      · omega
      rcases List.mem_cons.1 hm with e | hm
      · omega
      · have := hO _ hm; omega
    refine ⟨hg.cell hc hn, (World.frozen?_of_block (hg.block _ (World.block_lt_of_cell? _ _ hc) hn)).trans hf, hB.trans (hg.below ?_ (by have := hB.size; omega))⟩
    intro b hb
    rcases List.mem_cons.1 hb with e | hb
    · omega
    rcases List.mem_cons.1 hb with e | hb
    · omega
    · have := hO _ hb; omega
  case round =>
    rintro O pre x W hO ⟨hc, hf, hB⟩ hsz ⟨k, hk, hek⟩
    obtain ⟨t1, t2, t3, t4, t5⟩ := spn_tot hek
    have HCT := Lib.hid (tot_snoc pre x)
    have HB := Lib.hid hB
    obtain ⟨x1, x2⟩ := x
    simp only at t2 t3 t4 t5
    clear hB hek
    gi_wp2_with fail
    refine ⟨Keeps.of_below ((Below.refl _ _).alloc (Nat.le_refl _) _), fun W2 hg2 => ?_⟩
    have hlb : w1.heap.size < W.heap.size := by omega
    have b0 : W2.cell? ⟨w1.heap.size, 0, none⟩ = some (.int .i64 (tot pre)) := hg2.cell (p := ⟨w1.heap.size, 0, none⟩) ((World.cell?_alloc_lt _ _ _ hlb).trans hc) (by simp; omega)
    have b1 : W2.frozen? ⟨w1.heap.size, 0, none⟩ = false := (World.frozen?_of_block (a := ⟨w1.heap.size, 0, none⟩) ((hg2.block w1.heap.size (by simp; omega) (by simp; omega)).trans (Below.heap_alloc _ _ _ hlb))).trans hf
    have b2 : W2.cell? ⟨W.heap.size, 0, none⟩ = some (.int .i64 x1) := hg2.cell (p := ⟨W.heap.size, 0, none⟩) (by simp [go_sem]) (by simp; omega)
    have b3 : W2.cell? ⟨W.heap.size, 1, none⟩ = some (.int .i64 x2) := hg2.cell (p := ⟨W.heap.size, 1, none⟩) (by simp [go_sem]) (by simp; omega)
    have HG2 := Lib.hid hg2
    clear hg2 hc hf
    gi_wp2_with fail
    have hgs := GrownL.set (bs := [w1.heap.size]) W2 ⟨w1.heap.size, 0, none⟩ (.int .i64 (tot pre + (x2 - x1 + 1))) (by simp)
    refine ⟨Keeps.of_grown hgs (fun o ho hm => ?_), ?_, ?_, ?_⟩
    · have e : o = w1.heap.size := by simpa using hm
      subst e
      simp at ho
      rcases ho with ho | ho
      · omega
      · have := hO _ ho; omega
    · rw [HCT.out]
      exact World.cell?_setCell_same' _ _ _ (by rw [b0]; rfl)
    · rw [World.frozen?_setCell]; exact b1
    · exact ((HB.out.alloc (by omega) _).trans (HG2.out.below (by intro b hb; simp at hb; omega) (by simp; omega))).setCell (p := ⟨w1.heap.size, 0, none⟩) hbase _
  case done =>
    rintro O xs W hO hS ⟨hc, hf, hB⟩ hK
    have HS := Lib.hid hS
    have HB := Lib.hid hB
    clear hS hB
    gi_wp2_with fail
    refine ⟨by simp, .inl ⟨_, _, rfl, run_takeDeferred hK, ?_⟩⟩
    refine ⟨_, results_tmp2 rfl _ _ _, ?_, ?_⟩
    · have e := HS.out
      unfold AllRuns at e
      rw [e, tot_spn]
      rfl
    · refine HB.out.trans (belowK_b (w := w) (Nat.le_refl _) W W0.heap.size _ _ (by omega) hK rfl rfl)
  case stop =>
    rintro c O pre W hO _ h _
    exact h.elim

set_option maxHeartbeats 1000000 in
theorem count_err (v : Value) (ts : List T3) (ss : List S2) (lo hi c d : Int) (w : World) (h : RM w.heap.size v ts ss w) (hc : CheckIs ts ss c) (hd : InIs c lo hi d) (h0 : d ≠ 0) :
    Calls Tryz.prog 21 #[v, sv2 lo hi] w fun e w' => e = .returned (.tuple #[.int .i64 0, .int .i64 d]) ∧ Below w.heap.size w w' := by
  have H := Lib.hid h
  obtain ⟨A, m, ca, A', m', ca', rfl, h1, h2⟩ := h
  have HB2 := Lib.hid (below_two w (.cells #[.slice A m ca, .slice A' m' ca'] 25) (.cells #[.int .i64 lo, .int .i64 hi] 45))
  have C : Hid (∀ W, Below w.heap.size w W → w.heap.size ≤ W.heap.size → Calls Tryz.prog 53 #[.agg #[.slice A m ca, .slice A' m' ca'], sv2 lo hi] W fun e w' => e = .returned (.int .i64 d) ∧ Below W.heap.size W w') :=
    Lib.hid fun W hb hs => checkIn_any _ ts ss lo hi c d W (H.out.up hs hb) hc hd
  have hb0 : (d != 0) = true := by rw [bne_iff_ne]; exact h0
  clear h1 h2 h0 hd hc
  go_enter Tryz.func21, Tryz.ntmps21
  go_wp2_with fail
  refine (C.out _ HB2.out (by simp; omega)).mono ?_
  rintro e w1 ⟨rfl, hb1⟩
  have B1 := Lib.hid (HB2.out.trans (hb1.mono (by simp; omega)))
  clear hb1
  go_wp2_with fail
  go_ret2
  exact ⟨rfl, B1.out⟩

theorem count_any (v : Value) (ts : List T3) (ss : List S2) (lo hi c d r : Int) (w : World) (h : RM w.heap.size v ts ss w) (hc : CheckIs ts ss c) (hd : InIs c lo hi d) (hr : CountIs ts ss lo hi d r) :
    Calls Tryz.prog 21 #[v, sv2 lo hi] w fun e w' => e = .returned (.tuple #[.int .i64 r, .int .i64 d]) ∧ Below w.heap.size w w' := by
  rcases hr with ⟨h0, rfl⟩ | ⟨rfl, rfl⟩
  · exact count_err v ts ss lo hi c d w h hc hd h0
  · obtain ⟨rfl, hs⟩ := inIs_ok hd
    exact count_ok v ts ss lo hi w h hc hs
end Go.Proofs.YtcdodfehnkgjdaaGreatDoor
