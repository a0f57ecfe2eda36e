/- Contracts of the specification's Covers and Count. -/
import Derived.Test.YtlhgpeelenelbaaGreatDoorVB
import Derived.Test.YtlhgpeelenelbaaGreatDoorYA
namespace Go.Proofs.YtlhgpeelenelbaaGreatDoor
open Go.RowKit

set_option maxHeartbeats 4000000 in
set_option maxRecDepth 1000000 in
theorem rcovers_ok (va : Value) (ts : List T3) (ss : List S2) (lo hi : Int) (w : World) (h : RM w.heap.size va ts ss w) (hc : CheckIs ts ss 0) (hs : SOk lo hi) :
    Calls Tryz.prog 18 #[va, sv2 lo hi] w (CovPost 0 (setB (lotsOf ts ss)) lo hi w) := by
  obtain ⟨k1, k2, k3⟩ := checkIs_ok hc
  obtain ⟨s1, s2, s3⟩ := id hs
  obtain ⟨A, m, ca, A', m', ca', rfl, -⟩ := id h
  have CS := Lib.hid fun W (S : N2d w (.slice A m ca) (.slice A' m' ca') (.int .i64 lo) (.int .i64 hi) W) => rspanned_any _ ts ss lo hi 0 0 W (h.up S.siz S.bel) hc (.inr (.inl ⟨rfl, hs, rfl⟩))
  have CH := Lib.hid fun (n : Int) W (n0 : -1000000000 ≤ n) (n1 : n ≤ 1000000000) (S : N2d w (.slice A m ca) (.slice A' m' ca') (.int .i64 lo) (.int .i64 hi) W) => rhas_any _ ts ss n W (h.up S.siz S.bel) k3 k1 k2 n0 n1
  generalize setB (lotsOf ts ss) = H at *
  have S0 := Lib.hid (N2d.new (w := w) (v0 := .slice A m ca) (v1 := .slice A' m' ca') (u0 := .int .i64 lo) (u1 := .int .i64 hi) 25 27)
  clear h hc hs k3
  go_enter Tryz.func18, Tryz.ntmps18
  go_wp2_with fail
  refine (CS.out _ S0.out).mono ?_
  rintro e w1 ⟨rfl, h1⟩
  have S1 := Lib.hid (S0.out.below h1)
  clear h1 S0
  obtain ⟨t0, t1, t2, t3, t4, _⟩ := S1.out.out
  go_wp2_with fail
  clear t0 t1 t2 t3 t4
  go_loopw [8] (fun u wr => ∃ n : Int, u = .int .i64 n ∧ lo ≤ n ∧ n ≤ hi + 1 ∧ (∀ i, lo ≤ i → i < n → H i = true) ∧ N2d w (.slice A m ca) (.slice A' m' ca') (.int .i64 lo) (.int .i64 hi) wr) (fun u _ => (hi + 1 - intOf u).toNat)
  case atStart => exact ⟨lo, rfl, by omega, by omega, fun i _ _ => by omega, S1.out⟩
  case round =>
    obtain ⟨n, rfl, m0, m1, hl, S3⟩ := hrel
    have HL := Lib.hid hl
    have S := Lib.hid S3
    clear hl S3
    obtain ⟨t0, t1, t2, t3, t4, _⟩ := S.out.out
    by_cases hlt : n ≤ hi
    · have Ra := Lib.hid fun W S => CH.out n W (by omega) (by omega) S
      obtain ⟨x, hx⟩ : ∃ x, H n = x := ⟨_, rfl⟩
      rw [hx] at Ra
      have HX := Lib.hid hx
      clear hx
      cases x
      all_goals
        go_wp2_with fail
        refine (Ra.out _ S.out).mono ?_
        rintro e w3 ⟨rfl, h3⟩
        have S := Lib.hid (S.out.below h3)
        clear h3 t0 t1 t2 t3 t4
        obtain ⟨t0, t1, t2, t3, t4, _⟩ := S.out.out
        go_wp2_with fail
        first
          | (go_ret3
             exact ⟨n, false, rfl, .inr ⟨rfl, .inr ⟨rfl, m0, hlt, HX.out, HL.out⟩⟩, S.out.bel⟩)
          | (go_roundw
             case rel => exact ⟨n + 1, rfl, by omega, by omega, fun i i0 i1 => (by
               by_cases c : i < n
               · exact HL.out i i0 c
               · obtain rfl : i = n := by omega
                 exact HX.out), S.out⟩
             case measure => show (hi + 1 - (n + 1)).toNat < (hi + 1 - n).toNat; omega)
    · go_wp2_with fail
      go_ret3
      exact ⟨0, true, rfl, .inr ⟨rfl, .inl ⟨rfl, rfl, fun i i0 i1 => HL.out i i0 (by omega)⟩⟩, S.out.bel⟩

set_option maxHeartbeats 1000000 in
theorem rcovers_err (va : Value) (ts : List T3) (ss : List S2) (lo hi c d : Int) (w : World) (h : RM w.heap.size va ts ss w) (hc : CheckIs ts ss c) (hd : InIs c lo hi d) (h0 : d ≠ 0) :
    Calls Tryz.prog 18 #[va, sv2 lo hi] w (CovPost d (setB (lotsOf ts ss)) lo hi w) := by
  obtain ⟨A, m, ca, A', m', ca', rfl, -⟩ := id h
  have CS := Lib.hid fun W (S : N2d w (.slice A m ca) (.slice A' m' ca') (.int .i64 lo) (.int .i64 hi) W) => rspanned_any _ ts ss lo hi c d W (h.up S.siz S.bel) hc hd
  have S0 := Lib.hid (N2d.new (w := w) (v0 := .slice A m ca) (v1 := .slice A' m' ca') (u0 := .int .i64 lo) (u1 := .int .i64 hi) 25 27)
  have hb0 : (d != 0) = true := by rw [bne_iff_ne]; exact h0
  have HN := Lib.hid h0
  clear h hc hd h0
  go_enter Tryz.func18, Tryz.ntmps18
  go_wp2_with fail
  refine (CS.out _ S0.out).mono ?_
  rintro e w1 ⟨rfl, h1⟩
  have S1 := Lib.hid (S0.out.below h1)
  clear h1 S0
  go_wp2_with fail
  go_ret3
  exact ⟨0, false, rfl, .inl ⟨HN.out, rfl, rfl⟩, S1.out.bel⟩

theorem rcovers_any (va : Value) (ts : List T3) (ss : List S2) (lo hi c d : Int) (w : World) (h : RM w.heap.size va ts ss w) (hc : CheckIs ts ss c) (hd : InIs c lo hi d) :
    Calls Tryz.prog 18 #[va, sv2 lo hi] w (CovPost d (setB (lotsOf ts ss)) lo hi w) := by
  by_cases h0 : d = 0
  · subst h0
    obtain ⟨rfl, hs⟩ := inIs_ok hd
    exact rcovers_ok va ts ss lo hi w h hc hs
  · exact rcovers_err va ts ss lo hi c d w h hc hd h0

theorem cntH_succ (H : Int → Bool) (lo : Int) (k : Nat) : cntH H lo (k + 1) = if H (lo + k) = true then cntH H lo k + 1 else cntH H lo k := by
  rw [← tot_spn, ← tot_spn]
  show tot (if H (lo + k) = true then more (spn H lo k) (lo + k) else spn H lo k) = _
  split
  · rw [tot_more]
  · rfl

set_option maxHeartbeats 4000000 in
set_option maxRecDepth 1000000 in
theorem rcount_ok (va : Value) (ts : List T3) (ss : List S2) (lo hi : Int) (w : World) (h : RM w.heap.size va ts ss w) (hc : CheckIs ts ss 0) (hs : SOk lo hi) :
    Calls Tryz.prog 10 #[va, sv2 lo hi] w fun e w' => e = .returned (.tuple #[.int .i64 (cntH (setB (lotsOf ts ss)) lo (hi + 1 - lo).toNat), .int .i64 0]) ∧ Below w.heap.size w w' := by
  obtain ⟨k1, k2, k3⟩ := checkIs_ok hc
  obtain ⟨s1, s2, s3⟩ := id hs
  obtain ⟨A, m, ca, A', m', ca', rfl, -⟩ := id h
  have CS := Lib.hid fun W (S : N2d w (.slice A m ca) (.slice A' m' ca') (.int .i64 lo) (.int .i64 hi) W) => rspanned_any _ ts ss lo hi 0 0 W (h.up S.siz S.bel) hc (.inr (.inl ⟨rfl, hs, rfl⟩))
  have CH := Lib.hid fun (n : Int) W (n0 : -1000000000 ≤ n) (n1 : n ≤ 1000000000) (S : N2d w (.slice A m ca) (.slice A' m' ca') (.int .i64 lo) (.int .i64 hi) W) => rhas_any _ ts ss n W (h.up S.siz S.bel) k3 k1 k2 n0 n1
  generalize setB (lotsOf ts ss) = H at *
  have S0 := Lib.hid (N2d.new (w := w) (v0 := .slice A m ca) (v1 := .slice A' m' ca') (u0 := .int .i64 lo) (u1 := .int .i64 hi) 25 27)
  clear h hc hs k3
  go_enter Tryz.func10, Tryz.ntmps10
  go_wp2_with fail
  refine (CS.out _ S0.out).mono ?_
  rintro e w1 ⟨rfl, h1⟩
  have S1 := Lib.hid (S0.out.below h1)
  clear h1 S0
  obtain ⟨t0, t1, t2, t3, t4, _⟩ := S1.out.out
  go_wp2_with fail
  clear t0 t1 t2 t3 t4
  go_loopw [7, 8] (fun v u wr => ∃ k : Nat, v = .int .i64 (cntH H lo k) ∧ u = .int .i64 (lo + k) ∧ lo + k ≤ hi + 1 ∧ N2d w (.slice A m ca) (.slice A' m' ca') (.int .i64 lo) (.int .i64 hi) wr) (fun _ u _ => (hi + 1 - intOf u).toNat)
  case atStart => exact ⟨0, rfl, by simp, by omega, S1.out⟩
  case round =>
    obtain ⟨k, rfl, rfl, hk, S3⟩ := hrel
    have S := Lib.hid S3
    have hbd := cntH_bd H lo k
    have HSU := Lib.hid (cntH_succ H lo k)
    obtain ⟨cc, hcc⟩ : ∃ cc, cntH H lo k = cc := ⟨_, rfl⟩
    have HCC := Lib.hid hcc
    rw [hcc] at hbd ⊢
    clear S3 hcc
    obtain ⟨t0, t1, t2, t3, t4, _⟩ := S.out.out
    by_cases hlt : lo + k ≤ hi
    · have Ra := Lib.hid fun W S => CH.out (lo + k) W (by omega) (by omega) S
      obtain ⟨x, hx⟩ : ∃ x, H (lo + k) = x := ⟨_, rfl⟩
      rw [hx] at Ra
      have HX := Lib.hid hx
      clear hx
      have W1 : IntKind.i64.wrap (cc + 1) = cc + 1 := IntWalk.i64_in _ (by omega)
      cases x
      all_goals
        go_wp2_with fail
        refine (Ra.out _ S.out).mono ?_
        rintro e w3 ⟨rfl, h3⟩
        have S := Lib.hid (S.out.below h3)
        clear h3 t0 t1 t2 t3 t4
        obtain ⟨t0, t1, t2, t3, t4, _⟩ := S.out.out
        go_wp2_with fail
        go_roundw
        case rel => exact ⟨k + 1, by rw [HSU.out, HX.out, HCC.out]; simp, by congr 1; omega, by omega, S.out⟩
        case measure => show (hi + 1 - (lo + k + 1)).toNat < (hi + 1 - (lo + k)).toNat; omega
    · obtain rfl : (hi + 1 - lo).toNat = k := by omega
      go_wp2_with fail
      go_ret2
      exact ⟨by rw [HCC.out]; rfl, S.out.bel⟩

set_option maxHeartbeats 1000000 in
theorem rcount_err (va : Value) (ts : List T3) (ss : List S2) (lo hi c d : Int) (w : World) (h : RM w.heap.size va ts ss w) (hc : CheckIs ts ss c) (hd : InIs c lo hi d) (h0 : d ≠ 0) :
    Calls Tryz.prog 10 #[va, sv2 lo hi] w fun e w' => e = .returned (.tuple #[.int .i64 0, .int .i64 d]) ∧ Below w.heap.size w w' := by
  obtain ⟨A, m, ca, A', m', ca', rfl, -⟩ := id h
  have CS := Lib.hid fun W (S : N2d w (.slice A m ca) (.slice A' m' ca') (.int .i64 lo) (.int .i64 hi) W) => rspanned_any _ ts ss lo hi c d W (h.up S.siz S.bel) hc hd
  have S0 := Lib.hid (N2d.new (w := w) (v0 := .slice A m ca) (v1 := .slice A' m' ca') (u0 := .int .i64 lo) (u1 := .int .i64 hi) 25 27)
  have hb0 : (d != 0) = true := by rw [bne_iff_ne]; exact h0
  clear h hc hd h0
  go_enter Tryz.func10, Tryz.ntmps10
  go_wp2_with fail
  refine (CS.out _ S0.out).mono ?_
  rintro e w1 ⟨rfl, h1⟩
  have S1 := Lib.hid (S0.out.below h1)
  clear h1 S0
  go_wp2_with fail
  go_ret2
  exact ⟨rfl, S1.out.bel⟩

theorem rcount_any (va : Value) (ts : List T3) (ss : List S2) (lo hi c d r : Int) (w : World) (h : RM w.heap.size va ts ss w) (hc : CheckIs ts ss c) (hd : InIs c lo hi d) (hr : CountIs ts ss lo hi d r) :
    Calls Tryz.prog 10 #[va, sv2 lo hi] w fun e w' => e = .returned (.tuple #[.int .i64 r, .int .i64 d]) ∧ Below w.heap.size w w' := by
  rcases hr with ⟨h0, rfl⟩ | ⟨rfl, rfl⟩
  · exact rcount_err va ts ss lo hi c d w h hc hd h0
  · obtain ⟨rfl, hs⟩ := inIs_ok hd
    exact rcount_ok va ts ss lo hi w h hc hs
end Go.Proofs.YtlhgpeelenelbaaGreatDoor

/- Contract of the specification's Common. -/
namespace Go.Proofs.YtlhgpeelenelbaaGreatDoor
open Go.RowKit

/-- The first four blocks of Common: two sets, a span, the result. -/
def CmX (w : World) (v0 v1 u0 u1 z0 z1 : Value) (W : World) : Prop :=
  N3d w v0 v1 u0 u1 z0 z1 W ∧ W.heap[w.heap.size + 3]? = some (.cells #[.slice none 0 0, .int .i64 0] 37 (0, 0)) ∧ w.heap.size + 4 ≤ W.heap.size
section
variable {w W W' : World} {v0 v1 u0 u1 z0 z1 : Value} {bs : List Nat}
theorem CmX.n3 (h : CmX w v0 v1 u0 u1 z0 z1 W) : N3d w v0 v1 u0 u1 z0 z1 W := h.1
theorem CmX.bel (h : CmX w v0 v1 u0 u1 z0 z1 W) : Below w.heap.size w W := h.1.bel
theorem CmX.siz (h : CmX w v0 v1 u0 u1 z0 z1 W) : w.heap.size + 4 ≤ W.heap.size := h.2.2
theorem CmX.res (h : CmX w v0 v1 u0 u1 z0 z1 W) : W.cell? ⟨w.heap.size + 3, 0, none⟩ = some (.slice none 0 0) ∧ W.cell? ⟨w.heap.size + 3, 1, none⟩ = some (.int .i64 0) ∧ W.frozen? ⟨w.heap.size + 3, 0, none⟩ = false ∧ W.frozen? ⟨w.heap.size + 3, 1, none⟩ = false :=
  ⟨by simp [World.cell?, h.2.1], by simp [World.cell?, h.2.1], by simp [World.frozen?, h.2.1], by simp [World.frozen?, h.2.1]⟩
theorem CmX.setres (h : CmX w v0 v1 u0 u1 z0 z1 W) (x y : Value) : ((W.setCell ⟨w.heap.size + 3, 0, none⟩ x).setCell ⟨w.heap.size + 3, 1, none⟩ y).cell? ⟨w.heap.size + 3, 0, none⟩ = some x ∧ ((W.setCell ⟨w.heap.size + 3, 0, none⟩ x).setCell ⟨w.heap.size + 3, 1, none⟩ y).cell? ⟨w.heap.size + 3, 1, none⟩ = some y := by
  obtain ⟨r0, r1, _, _⟩ := h.res
  have t : Two (w.heap.size + 3) (.slice none 0 0) (.int .i64 0) W := ⟨r0, r1, by have := h.siz; omega⟩
  have t' := t.set x y
  exact ⟨t'.1, t'.2.1⟩
theorem CmX.grown (h : CmX w v0 v1 u0 u1 z0 z1 W) (hg : GrownL bs W W') (hn : ∀ b ∈ bs, w.heap.size + 4 ≤ b) : CmX w v0 v1 u0 u1 z0 z1 W' := by
  obtain ⟨h1, h2, h3⟩ := h
  have n3 : w.heap.size + 3 ∉ bs := fun hm => by have := hn _ hm; omega
  exact ⟨h1.grown hg (fun b hb => by have := hn b hb; omega), (hg.block _ (by omega) n3).trans h2, Nat.le_trans h3 hg.size⟩
theorem CmX.below (h : CmX w v0 v1 u0 u1 z0 z1 W) (hb : Below W.heap.size W W') : CmX w v0 v1 u0 u1 z0 z1 W' := h.grown (GrownL.of_below (bs := []) hb) (by simp)
theorem CmX.new (w : World) (v0 v1 u0 u1 z0 z1 : Value) : CmX w v0 v1 u0 u1 z0 z1 ((((w.alloc (.cells #[v0, v1] 25)).alloc (.cells #[u0, u1] 25)).alloc (.cells #[z0, z1] 27)).alloc (.cells #[.slice none 0 0, .int .i64 0] 37)) := by
  refine ⟨(N3d.new _ _ _).alloc _, ?_, by simp⟩
  have := World.alloc_heap_new (((w.alloc (.cells #[v0, v1] 25)).alloc (.cells #[u0, u1] 25)).alloc (.cells #[z0, z1] 27)) (.cells #[.slice none 0 0, .int .i64 0] 37)
  simpa using this
end
theorem OwnS.again' {w : World} {v : Value} {l : List S2} {W W' : World} {c d full} (h : OwnS (w.heap.size + 4) v l W) (hl : ListIs d full l c) (hg : GrownL [w.heap.size + 3] W W') : RS W'.heap.size v l W' := by
  refine rs_of_row (ownsRow_grownL (base := w.heap.size + 4) h hg fun g e hm => ?_) ?_
  · have := h.lt g e
    simp at hm
    omega
  · rcases hl with ⟨_, rfl, _⟩ | ⟨_, h1, rfl, _⟩ | ⟨_, _, rfl, _⟩
    · simp
    · omega
    · simp

set_option maxHeartbeats 4000000 in
set_option maxRecDepth 1000000 in
theorem rcommon_ok (va vb : Value) (ts : List T3) (ss : List S2) (ts2 : List T3) (ss2 : List S2) (lo hi : Int) (w : World) (h : RM w.heap.size va ts ss w) (h' : RM w.heap.size vb ts2 ss2 w) (hc : CheckIs ts ss 0) (hc' : CheckIs ts2 ss2 0) (hs : SOk lo hi) (hlen : hi - lo ≤ 999999) :
    Calls Tryz.prog 16 #[va, vb, sv2 lo hi] w (RListPost 0 (spn (andH (setB (lotsOf ts ss)) (setB (lotsOf ts2 ss2))) lo (hi + 1 - lo).toNat) w) := by
  obtain ⟨k1, k2, k3⟩ := checkIs_ok hc
  obtain ⟨l1, l2, l3⟩ := checkIs_ok hc'
  obtain ⟨s1, s2, s3⟩ := id hs
  obtain ⟨A, m, ca, A', m', ca', rfl, -⟩ := id h
  obtain ⟨B, l, cb, B', l', cb', rfl, -⟩ := id h'
  have CC := Lib.hid fun W (hb : Below w.heap.size w W) => rcheck_rm (h.up hb.size hb) hc
  have CS := Lib.hid fun W (hb : Below w.heap.size w W) => rspanned_any _ ts2 ss2 lo hi 0 0 W (h'.up hb.size hb) hc' (.inr (.inl ⟨rfl, hs, rfl⟩))
  have CH := Lib.hid fun (n : Int) W (n0 : -1000000000 ≤ n) (n1 : n ≤ 1000000000) (hb : Below w.heap.size w W) => rhas_any _ ts ss n W (h.up hb.size hb) k3 k1 k2 n0 n1
  have CH' := Lib.hid fun (n : Int) W (n0 : -1000000000 ≤ n) (n1 : n ≤ 1000000000) (hb : Below w.heap.size w W) => rhas_any _ ts2 ss2 n W (h'.up hb.size hb) l3 l1 l2 n0 n1
  generalize setB (lotsOf ts ss) = H at *
  generalize setB (lotsOf ts2 ss2) = H' at *
  have S0 := Lib.hid (CmX.new w (.slice A m ca) (.slice A' m' ca') (.slice B l cb) (.slice B' l' cb') (.int .i64 lo) (.int .i64 hi))
  have HO0 : Hid (∀ W, OwnS (w.heap.size + 4) (.slice none 0 0) (spn (andH H H') lo 0) W) := Lib.hid fun W => World.ownsRow_nil W _ _ _
  clear h h' hc hc' hs k3 l3
  go_enter Tryz.func16, Tryz.ntmps16
  go_wp2_with fail
  refine (CC.out _ S0.out.bel).mono ?_
  rintro e w1 ⟨rfl, h1⟩
  have S1 := Lib.hid (S0.out.below h1)
  clear h1 S0
  obtain ⟨t0, t1, t2, t3, t4, t5, _⟩ := S1.out.n3.out
  go_wp2_with fail
  refine (CS.out _ S1.out.bel).mono ?_
  rintro e w2 ⟨rfl, h2⟩
  have S2 := Lib.hid (S1.out.below h2)
  clear h2 S1 t0 t1 t2 t3 t4 t5
  obtain ⟨t0, t1, t2, t3, t4, t5, _⟩ := S2.out.n3.out
  go_wp2_with fail
  clear t0 t1 t2 t3 t4 t5
  go_loopw [8, 9] (fun v u wr => ∃ k : Nat, u = .int .i64 (lo + k) ∧ lo + k ≤ hi + 1 ∧ OwnS (w.heap.size + 4) v (spn (andH H H') lo k) wr ∧ CmX w (.slice A m ca) (.slice A' m' ca') (.slice B l cb) (.slice B' l' cb') (.int .i64 lo) (.int .i64 hi) wr) (fun _ u _ => (hi + 1 - intOf u).toNat)
  case atStart => exact ⟨0, by simp, by omega, HO0.out _, S2.out⟩
  case round =>
    obtain ⟨k, rfl, hk, ho, hsx⟩ := hrel
    have HO := Lib.hid ho
    have S := Lib.hid hsx
    obtain ⟨t0, t1, t2, t3, t4, t5, _⟩ := hsx.n3.out
    have hkl : (spn (andH H H') lo k).length ≤ 1000000 := Nat.le_trans (spn_len _ _ _) (by omega)
    clear ho hsx
    by_cases hlt : lo + k ≤ hi
    · have hsp : spn (andH H H') lo (k + 1) = if (H (lo + k) && H' (lo + k)) = true then more (spn (andH H H') lo k) (lo + k) else spn (andH H H') lo k := rfl
      have CHa := Lib.hid fun W hb => CH.out (lo + k) W (by omega) (by omega) hb
      have CHb := Lib.hid fun W hb => CH'.out (lo + k) W (by omega) (by omega) hb
      obtain ⟨x, hx⟩ : ∃ x, H (lo + k) = x := ⟨_, rfl⟩
      obtain ⟨y, hy⟩ : ∃ y, H' (lo + k) = y := ⟨_, rfl⟩
      rw [hx] at CHa
      rw [hy] at CHb
      rw [hx, hy] at hsp
      have HSP := Lib.hid hsp
      have HKL := Lib.hid hkl
      clear hsp hx hy hkl
      cases x <;> cases y
      all_goals
        go_wp2_with fail
        refine (CHa.out _ S.out.bel).mono ?_
        rintro e w3 ⟨rfl, h3⟩
        have S3 := Lib.hid (S.out.below h3)
        have HO3 := Lib.hid (HO.out.grown (GrownL.of_below (bs := []) h3) (by simp))
        clear h3 t0 t1 t2 t3 t4 t5 S HO
        obtain ⟨t0, t1, t2, t3, t4, t5, _⟩ := S3.out.n3.out
        go_wp2_with fail
        refine (CHb.out _ S3.out.bel).mono ?_
        rintro e w3 ⟨rfl, h3⟩
        have S3 := Lib.hid (S3.out.below h3)
        have HO3 := Lib.hid (HO3.out.grown (GrownL.of_below (bs := []) h3) (by simp))
        clear h3 t0 t1 t2 t3 t4 t5
        obtain ⟨t0, t1, t2, t3, t4, t5, _⟩ := S3.out.n3.out
        go_wp2_with fail
        first
          | (go_roundw
             case rel => exact ⟨k + 1, by congr 1; omega, by omega, by rw [HSP.out]; exact HO3.out, S3.out⟩
             case measure => show (hi + 1 - (lo + k + 1)).toNat < (hi + 1 - (lo + k)).toNat; omega)
          | (refine (rmore_any (w.heap.size + 4) _ _ (lo + k) _ HO3.out HKL.out S3.out.siz (by omega) (by omega)).mono ?_
             rintro e w4 ⟨v', rfl, ho4, hg4⟩
             have S4 := Lib.hid (S3.out.grown hg4 (fun b hb => by have := HO3.out.lt b (by simpa using hb); omega))
             have HO4 := Lib.hid ho4
             clear ho4 hg4 t0 t1 t2 t3 t4 t5
             obtain ⟨t0, t1, t2, t3, t4, t5, _⟩ := S4.out.n3.out
             go_wp2_with fail
             go_roundw
             case rel => exact ⟨k + 1, by congr 1; omega, by omega, by rw [HSP.out]; exact HO4.out, S4.out⟩
             case measure => show (hi + 1 - (lo + k + 1)).toNat < (hi + 1 - (lo + k)).toNat; omega)
    · obtain rfl : (hi + 1 - lo).toNat = k := by omega
      have HKL := Lib.hid hkl
      clear hkl
      obtain ⟨r0, r1, f0, f1⟩ := S.out.res
      obtain ⟨Av, cv, rfl, -⟩ := HO.out.form
      go_wp2_with fail
      refine (rlisted_any (w.heap.size + 4) _ _ _ HO.out HKL.out).mono ?_
      rintro e w4 ⟨v', l, c, rfl, hl4, hb4, hc4⟩
      have S4 := Lib.hid (S.out.below hb4)
      have R4 := Lib.hid (And.intro hl4 hc4)
      obtain ⟨Av', nv', cv', rfl⟩ := hl4.slice
      clear hl4 hb4 hc4 r0 r1 f0 f1 t0 t1 t2 t3 t4 t5 S HO
      obtain ⟨r0, r1, f0, f1⟩ := S4.out.res
      go_wp2_with fail
      refine bodyPost_ret (v := .agg #[.slice Av' nv' cv', .int .i64 c]) ?_ rfl ?_
      · have q := S4.out.setres (.slice Av' nv' cv') (.int .i64 c)
        simp [results, Tryz.results16, go_sem, q.1, q.2]
      · refine ⟨_, l, c, rfl, R4.out.1.again' R4.out.2 ?_, (S4.out.bel.setCell (p := ⟨w.heap.size + 3, 0, none⟩) (by simp) _).setCell (p := ⟨w.heap.size + 3, 1, none⟩) (by simp) _, R4.out.2⟩
        exact (GrownL.set (bs := [w.heap.size + 3]) _ ⟨w.heap.size + 3, 0, none⟩ _ (by simp)).trans (GrownL.set (bs := [w.heap.size + 3]) _ ⟨w.heap.size + 3, 1, none⟩ _ (by simp))

set_option maxHeartbeats 4000000 in
set_option maxRecDepth 1000000 in
theorem rcommon_err (va vb : Value) (ts : List T3) (ss : List S2) (ts2 : List T3) (ss2 : List S2) (lo hi c c' d0 d : Int) (w : World) (h : RM w.heap.size va ts ss w) (h' : RM w.heap.size vb ts2 ss2 w) (hc : CheckIs ts ss c) (hc' : CheckIs ts2 ss2 c') (hd0 : BothIs c c' d0) (hd : InIs d0 lo hi d) (h0 : d ≠ 0) :
    Calls Tryz.prog 16 #[va, vb, sv2 lo hi] w fun e w' => e = .returned (.agg #[.slice none 0 0, .int .i64 d]) ∧ Below w.heap.size w w' := by
  obtain ⟨A, m, ca, A', m', ca', rfl, -⟩ := id h
  obtain ⟨B, l, cb, B', l', cb', rfl, -⟩ := id h'
  have CC := Lib.hid fun W (hb : Below w.heap.size w W) => rcheck_rm (h.up hb.size hb) hc
  have S0 := Lib.hid (CmX.new w (.slice A m ca) (.slice A' m' ca') (.slice B l cb) (.slice B' l' cb') (.int .i64 lo) (.int .i64 hi))
  have hb0 : (d != 0) = true := by rw [bne_iff_ne]; exact h0
  by_cases hc0 : c = 0
  · subst hc0
    have hd' : InIs c' lo hi d := by rcases hd0 with ⟨a, _⟩ | ⟨_, rfl⟩; exact absurd rfl a; exact hd
    have CS := Lib.hid fun W (hb : Below w.heap.size w W) => rspanned_any _ ts2 ss2 lo hi c' d W (h'.up hb.size hb) hc' hd'
    clear h h' hc hc' hd0 hd h0 hd'
    go_enter Tryz.func16, Tryz.ntmps16
    go_wp2_with fail
    refine (CC.out _ S0.out.bel).mono ?_
    rintro e w1 ⟨rfl, h1⟩
    have S1 := Lib.hid (S0.out.below h1)
    clear h1 S0
    obtain ⟨t0, t1, t2, t3, t4, t5, _⟩ := S1.out.n3.out
    go_wp2_with fail
    refine (CS.out _ S1.out.bel).mono ?_
    rintro e w2 ⟨rfl, h2⟩
    have S2 := Lib.hid (S1.out.below h2)
    clear h2 S1 t0 t1 t2 t3 t4 t5
    obtain ⟨r0, r1, f0, f1⟩ := S2.out.res
    go_wp2_with fail
    refine bodyPost_ret (v := .agg #[.slice none 0 0, .int .i64 d]) ?_ rfl ?_
    · have q := S2.out.setres (.slice none 0 0) (.int .i64 d)
      simp [results, Tryz.results16, go_sem, q.1, q.2]
    · exact ⟨rfl, (S2.out.bel.setCell (p := ⟨w.heap.size + 3, 0, none⟩) (by simp) _).setCell (p := ⟨w.heap.size + 3, 1, none⟩) (by simp) _⟩
  · obtain rfl : d = c := by
      rcases hd0 with ⟨_, rfl⟩ | ⟨a, _⟩
      · rcases hd with ⟨_, rfl⟩ | ⟨a, _⟩ | ⟨a, _⟩
        · rfl
        · exact absurd a hc0
        · exact absurd a hc0
      · exact absurd a hc0
    clear h h' hc hc' hd0 hd h0 hc0
    go_enter Tryz.func16, Tryz.ntmps16
    go_wp2_with fail
    refine (CC.out _ S0.out.bel).mono ?_
    rintro e w1 ⟨rfl, h1⟩
    have S2 := Lib.hid (S0.out.below h1)
    clear h1 S0
    obtain ⟨r0, r1, f0, f1⟩ := S2.out.res
    go_wp2_with fail
    refine bodyPost_ret (v := .agg #[.slice none 0 0, .int .i64 d]) ?_ rfl ?_
    · have q := S2.out.setres (.slice none 0 0) (.int .i64 d)
      simp [results, Tryz.results16, go_sem, q.1, q.2]
    · exact ⟨rfl, (S2.out.bel.setCell (p := ⟨w.heap.size + 3, 0, none⟩) (by simp) _).setCell (p := ⟨w.heap.size + 3, 1, none⟩) (by simp) _⟩

theorem rcommon_any (va vb : Value) (ts : List T3) (ss : List S2) (ts2 : List T3) (ss2 : List S2) (lo hi c c' d0 d : Int) (w : World) (h : RM w.heap.size va ts ss w) (h' : RM w.heap.size vb ts2 ss2 w) (hc : CheckIs ts ss c) (hc' : CheckIs ts2 ss2 c') (hd0 : BothIs c c' d0) (hd : InIs d0 lo hi d) (hlen : SOk lo hi → hi - lo ≤ 999999) :
    Calls Tryz.prog 16 #[va, vb, sv2 lo hi] w (RListPost d (spn (andH (setB (lotsOf ts ss)) (setB (lotsOf ts2 ss2))) lo (hi + 1 - lo).toNat) w) := by
  by_cases h0 : d = 0
  · subst h0
    obtain ⟨rfl, hs⟩ := inIs_ok hd
    obtain ⟨e1, e2⟩ : c = 0 ∧ c' = 0 := by rcases hd0 with ⟨a, b⟩ | ⟨a, b⟩ <;> omega
    subst e1 e2
    exact rcommon_ok va vb ts ss ts2 ss2 lo hi w h h' hc hc' hs (hlen hs)
  · refine (rcommon_err va vb ts ss ts2 ss2 lo hi c c' d0 d w h h' hc hc' hd0 hd h0).mono ?_
    rintro e w' ⟨rfl, hb⟩
    exact ⟨_, [], d, rfl, rs_nil _ _, hb, .inl ⟨h0, rfl, rfl⟩⟩
end Go.Proofs.YtlhgpeelenelbaaGreatDoor
