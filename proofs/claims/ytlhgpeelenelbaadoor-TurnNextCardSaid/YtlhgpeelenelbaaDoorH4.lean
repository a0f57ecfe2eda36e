/- Contract of reader.number. -/
import Derived.Test.YtlhgpeelenelbaaDoorH3
namespace Go.Proofs.YtlhgpeelenelbaaDoor
open Go.RowKit

def NumPost (A T R : Nat) (s : ByteArray) (r : Int × Nat × Bool) (w : World) (e : Ending) (w' : World) : Prop :=
  e = .returned (.int .i64 r.1) ∧ RdAt A T R s r.2 w' ∧ GrownL [A, R] w w'

set_option maxHeartbeats 4000000 in
set_option maxRecDepth 1000000 in
theorem readNumber_any (A T R : Nat) (s : ByteArray) (lo hi : Int) (st : Nat × Bool) (w : World) (h : RdAt A T R s st w) (hat : st.1 ≤ s.size) (hsx : s.size ≤ 1000000) (h0 : 0 ≤ lo) (h2 : lo ≤ 1048577) (h3 : hi ≤ 1048576) :
    Calls Tryd.prog 135 #[.pointer (some ⟨R, 0, none⟩), .int .i64 lo, .int .i64 hi] w (NumPost A T R s (numF s.data.toList lo hi st) w) := by
  obtain ⟨l1, l2, l3⟩ := h.lt
  obtain ⟨n1, n2, n3⟩ := h.ne
  have HH := Lib.hid h
  have r1 := h.r1
  obtain ⟨a0, bad⟩ := st
  simp only at hat r1
  clear h
  cases bad
  · have hs : s.data.toList.length = s.size := rfl
    have HSL := Lib.hid hs
    have q1 : ((w.alloc (.cells #[.int .i64 lo] 3)).alloc (.cells #[.int .i64 hi] 3)).cell? ⟨R, 1, none⟩ = some (.bool false) := (World.cell?_alloc_lt _ _ _ (by show R < _; simp; omega)).trans ((World.cell?_alloc_lt _ _ _ l3).trans r1)
    clear hs
    go_enter Tryd.func135, Tryd.ntmps135
    go_wp2_with fail
    obtain ⟨W0, hW0⟩ : ∃ W0, (((w.alloc (.cells #[.int .i64 lo] 3)).alloc (.cells #[.int .i64 hi] 3)).alloc (.cells #[.int .i64 0] 3)).alloc (.cells #[.int .i64 0] 3) = W0 := ⟨_, rfl⟩
    have hz : W0.heap.size = w.heap.size + 4 := by rw [← hW0]; simp
    have hbw : Below w.heap.size w W0 := by
      rw [← hW0]
      exact ((((Below.refl w.heap.size w).alloc (Nat.le_refl _) _).alloc (by simp) _).alloc (by simp; omega) _).alloc (by simp; omega) _
    have b1 : Boxed W0 w.heap.size 3 (.int .i64 lo) := by rw [← hW0]; exact (((Boxed.new w _ _).alloc _).alloc _).alloc _
    have b2 : Boxed W0 (w.heap.size + 1) 3 (.int .i64 hi) := by
      rw [← hW0]
      have := ((Boxed.new (w.alloc (.cells #[.int .i64 lo] 3)) 3 (.int .i64 hi)).alloc (.cells #[.int .i64 0] 3)).alloc (.cells #[.int .i64 0] 3)
      rwa [World.size_alloc] at this
    have b3 : Boxed W0 (w.heap.size + 2) 3 (.int .i64 0) := by
      rw [← hW0]
      have := (Boxed.new ((w.alloc (.cells #[.int .i64 lo] 3)).alloc (.cells #[.int .i64 hi] 3)) 3 (.int .i64 0)).alloc (.cells #[.int .i64 0] 3)
      simpa using this
    have b4 : Boxed W0 (w.heap.size + 3) 3 (.int .i64 0) := by
      rw [← hW0]
      have := Boxed.new (((w.alloc (.cells #[.int .i64 lo] 3)).alloc (.cells #[.int .i64 hi] 3)).alloc (.cells #[.int .i64 0] 3)) 3 (.int .i64 0)
      simpa using this
    have hr := HH.out.grown (bs := []) (GrownL.of_below hbw) (by simp) (by simp) (by simp)
    rw [hW0]
    have S0 := Lib.hid (And.intro hbw (And.intro b1 (And.intro b2 (And.intro b3 (And.intro b4 hr)))))
    clear hW0 hbw b1 b2 b3 b4 hr q1 r1
    go_loopg [] s.size (fun g wr => ∃ (n : Int) (dg a : Nat), Boxed wr (w.heap.size + 3) 3 (.int .i64 dg) ∧ Boxed wr (w.heap.size + 2) 3 (.int .i64 n) ∧ Boxed wr w.heap.size 3 (.int .i64 lo) ∧ Boxed wr (w.heap.size + 1) 3 (.int .i64 hi) ∧
      RdAt A T R s (a, false) wr ∧ GrownL [A, R] w wr ∧ digF s.data.toList lo hi n dg a = digF s.data.toList lo hi 0 0 a0 ∧ 0 ≤ n ∧ n ≤ 1048576 ∧ dg ≤ a ∧ a ≤ s.size ∧ g + a = s.size + a0 ∧ w.heap.size + 4 ≤ wr.heap.size)
    case atStart =>
      obtain ⟨hbw, b1, b2, b3, b4, hr⟩ := S0.out
      exact ⟨0, 0, a0, b4, b3, b1, b2, hr, GrownL.of_below hbw, rfl, by omega, by omega, by omega, hat, by omega, by omega⟩
    case round =>
      obtain ⟨n, dg, a, hd, hn, hl, hh, hrd, hgr, hF, m0, m1, m2, m3, hga, hszr⟩ := hrel
      have TD := Lib.hid (takeD_any A T (w.heap.size + 3) (w.heap.size + 2) w.heap.size (w.heap.size + 1) s lo hi n dg a wr m0 m1 h2 h3 (by omega) m3 hsx hrd.1 hrd.2.1 hd hn hl hh (by omega) (by omega) (by omega))
      have HB := Lib.hid (And.intro hd (And.intro hn (And.intro hl hh)))
      have HR := Lib.hid hrd
      have HG := Lib.hid hgr
      have HF := Lib.hid hF
      have HGA := Lib.hid hga
      have r0 := hrd.r0
      have r1 := hrd.r1
      have rf := hrd.rf 1
      have cd := hd.cell
      have cn := hn.cell
      have cl := hl.cell
      clear hd hn hl hh hrd hgr hF hga
      have hA2 : A ≠ w.heap.size + 2 := by omega
      have hA3 : A ≠ w.heap.size + 3 := by omega
      have HEnd : Hid ((s.size ≤ a ∨ ∃ c, s.data.toList[a]? = some c ∧ digB lo hi n dg c = false) → numF s.data.toList lo hi (a0, false) = (n, a, decide (dg = 0) || decide (n < lo))) := Lib.hid (fun he => by
        have e1 : digF s.data.toList lo hi n dg a = (n, dg, a) := by
          rcases he with h | ⟨c, h1, h2⟩
          · exact digF_end (by rw [HSL.out]; exact h)
          · exact digF_no h1 h2
        have e2 := HF.out
        rw [e1] at e2
        unfold numF
        rw [if_neg (by simp)]
        simp only
        rw [← e2])
      go_wp2_with fail
      refine TD.out.mono ?_
      rintro e w4 (⟨hend, rfl, rfl⟩ | ⟨c, hc, hdb, rfl, rfl⟩)
      · have HE := Lib.hid (HEnd.out hend)
        clear hend
        by_cases hdg : dg = 0
        · have hb : ((dg : Int) == 0) = true := by simp; omega
          have HV : Hid ((decide (dg = 0) || decide (n < lo)) = true) := Lib.hid (by simp [hdg])
          clear hdg
          go_wp2_with fail
          go_ret
          refine ⟨by rw [HE.out]; rfl, ?_, HG.out.trans (GrownL.set _ _ _ (by simp))⟩
          rw [HE.out]
          have := HR.out.fail true
          rw [HV.out]
          exact this
        · have hb : ((dg : Int) == 0) = false := by simp; omega
          by_cases hnl : n < lo
          · have HV : Hid ((decide (dg = 0) || decide (n < lo)) = true) := Lib.hid (by simp [hnl])
            clear hdg
            go_wp2_with fail
            go_ret
            refine ⟨by rw [HE.out]; rfl, ?_, HG.out.trans (GrownL.set _ _ _ (by simp))⟩
            rw [HE.out, HV.out]
            exact HR.out.fail true
          · have HV : Hid ((decide (dg = 0) || decide (n < lo)) = false) := Lib.hid (by simp [hdg]; omega)
            have hnl' : decide (n < lo) = false := by simp; omega
            clear hdg
            go_wp2_with fail
            go_ret
            refine ⟨by rw [HE.out]; rfl, ?_, HG.out.trans (GrownL.set _ _ _ (by simp))⟩
            rw [HE.out, HV.out]
            exact HR.out.fail false
      · have HC := Lib.hid (And.intro hc hdb)
        clear hc hdb
        go_wp2_with fail
        have hcl := (List.getElem?_eq_some_iff.1 HC.out.1).1
        rw [HSL.out] at hcl
        obtain ⟨d1, d2⟩ := digB_le HC.out.2
        obtain ⟨b1, b2, b3, b4⟩ := HB.out
        have hd3 : (w.heap.size + 2) ≠ w.heap.size + 3 := by omega
        have G2 : GrownL [w.heap.size + 2, w.heap.size + 3] wr ((wr.setCell ⟨w.heap.size + 2, 0, none⟩ (.int .i64 (n * 10 + ((c.toNat : Int) - 48)))).setCell ⟨w.heap.size + 3, 0, none⟩ (.int .i64 ((dg : Int) + 1))) := (GrownL.set _ _ _ (by simp)).trans (GrownL.set _ _ _ (by simp))
        have hm := (HR.out.grown G2 (by simp; omega) (by simp; omega) (by simp; omega)).move (a + 1)
        have hgrow : GrownL [A, R] w ((((wr.setCell ⟨w.heap.size + 2, 0, none⟩ (.int .i64 (n * 10 + ((c.toNat : Int) - 48)))).setCell ⟨w.heap.size + 3, 0, none⟩ (.int .i64 ((dg : Int) + 1)))).setCell ⟨A, 0, none⟩ (.int .i64 ((a : Int) + 1))) := by
          have g3 := (G2.mono (bs' := [w.heap.size + 2, w.heap.size + 3, A]) (fun b hb => by simp at hb ⊢; omega)).trans (GrownL.set (bs := [w.heap.size + 2, w.heap.size + 3, A]) _ ⟨A, 0, none⟩ (.int .i64 ((a : Int) + 1)) (by simp))
          have g0 := HG.out
          exact ⟨g3.os.trans g0.os, g3.tape.trans g0.tape, g3.output.trans g0.output, Nat.le_trans g0.size g3.size, fun k hk hn => (g3.block k (Nat.lt_of_lt_of_le hk g0.size) (by simp at hn ⊢; omega)).trans (g0.block k hk hn)⟩
        go_roundg (gk - 1)
        case measure => have := HGA.out; omega
        case rel =>
          refine ⟨n * 10 + ((c.toNat : Int) - 48), dg + 1, a + 1, ?_, ?_, ?_, ?_, hm, hgrow, ?_, by omega, by omega, by omega, by omega, by have := HGA.out; omega, by simpa [go_sem] using hszr⟩
          · exact boxed_set_other ((boxed_set_other b1 (by omega)).set _) (by omega)
          · exact boxed_set_other (boxed_set_other (b2.set _) (by omega)) (by omega)
          · exact boxed_set_other (boxed_set_other (boxed_set_other b3 (by omega)) (by omega)) (by omega)
          · exact boxed_set_other (boxed_set_other (boxed_set_other b4 (by omega)) (by omega)) (by omega)
          · rw [← HF.out, digF_go HC.out.1 HC.out.2]
  · go_enter Tryd.func135, Tryd.ntmps135
    have q1 : ((w.alloc (.cells #[.int .i64 lo] 3)).alloc (.cells #[.int .i64 hi] 3)).cell? ⟨R, 1, none⟩ = some (.bool true) := (World.cell?_alloc_lt _ _ _ (by show R < _; simp; omega)).trans ((World.cell?_alloc_lt _ _ _ l3).trans r1)
    go_wp2_with fail
    go_ret
    have g : ∀ bs : List Nat, GrownL bs w ((w.alloc (.cells #[.int .i64 lo] 3)).alloc (.cells #[.int .i64 hi] 3)) := fun bs => GrownL.of_below (((Below.refl w.heap.size w).alloc (Nat.le_refl _) _).alloc (by simp) _)
    exact ⟨rfl, HH.out.grown (g []) (by simp) (by simp) (by simp), g _⟩
end Go.Proofs.YtlhgpeelenelbaaDoor
