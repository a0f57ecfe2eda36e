/- Contracts of checkIn and Count. -/
import Derived.Test.YtcdodfehnkgjdaaGreatDoorE2
namespace Go.Proofs.YtcdodfehnkgjdaaGreatDoor
open Go.RowKit
attribute [local go_sem] Oper.semAt_some

def InIs (c lo hi d : Int) : Prop := (c ≠ 0 ∧ d = c) ∨ (c = 0 ∧ SOk lo hi ∧ d = 0) ∨ (c = 0 ∧ ¬ SOk lo hi ∧ d = 1)

set_option maxHeartbeats 1000000 in
theorem checkIn_any (v : Value) (ts : List T3) (ss : List S2) (lo hi c d : Int) (w : World) (h : RM w.heap.size v ts ss w) (hc : CheckIs ts ss c) (hd : InIs c lo hi d) :
    Calls Tryz.prog 53 #[v, sv2 lo hi] w fun e w' => e = .returned (.int .i64 d) ∧ Below w.heap.size w w' := by
  have H := Lib.hid h
  obtain ⟨A, m, ca, A', m', ca', rfl, h1, h2⟩ := h
  have hB2 := below_two w (.cells #[.slice A m ca, .slice A' m' ca'] 25) (.cells #[.int .i64 lo, .int .i64 hi] 45)
  have HB2 := Lib.hid hB2
  have C : Hid (∀ W, Below w.heap.size w W → w.heap.size ≤ W.heap.size → Calls Tryz.prog 12 #[.agg #[.slice A m ca, .slice A' m' ca']] W fun e w' => e = .returned (.int .i64 c) ∧ Below W.heap.size W w') :=
    Lib.hid fun W hb hs => check_any _ _ ts ss c W (h1.up hs hb) (h2.up hs hb) hc
  clear h1 h2 hB2
  rcases hd with ⟨h0, rfl⟩ | ⟨rfl, hm, rfl⟩ | ⟨rfl, hm, rfl⟩
  · have hb0 : (d != 0) = true := by rw [bne_iff_ne]; exact h0
    clear h0
    go_enter Tryz.func53, Tryz.ntmps53
    go_wp2_with fail
    refine (C.out _ HB2.out (by simp; omega)).mono ?_
    rintro e w1 ⟨rfl, hb1⟩
    have B1 := Lib.hid (HB2.out.trans (hb1.mono (by simp; omega)))
    clear hb1
    go_wp2_with fail
    go_ret
    exact ⟨rfl, B1.out⟩
  · have K := Lib.hid fun W => isSpan_yes lo hi W hm
    clear hm
    go_enter Tryz.func53, Tryz.ntmps53
    go_wp2_with fail
    refine (C.out _ HB2.out (by simp; omega)).mono ?_
    rintro e w1 ⟨rfl, hb1⟩
    have B1 := Lib.hid (HB2.out.trans (hb1.mono (by simp; omega)))
    have z0 : w1.cell? ⟨w.heap.size + 1, 0, none⟩ = some (.int .i64 lo) := (hb1.cell (p := ⟨w.heap.size + 1, 0, none⟩) (by simp)).trans (by simp [go_sem])
    have z1 : w1.cell? ⟨w.heap.size + 1, 1, none⟩ = some (.int .i64 hi) := (hb1.cell (p := ⟨w.heap.size + 1, 1, none⟩) (by simp)).trans (by simp [go_sem])
    have hz := hb1.size
    clear hb1
    go_wp2_with fail
    refine (K.out _).mono ?_
    rintro e w2 ⟨rfl, hb2⟩
    have B2 := Lib.hid (B1.out.trans (hb2.mono (by simp at hz; omega)))
    clear hb2
    go_wp2_with fail
    go_ret
    exact ⟨rfl, B2.out⟩
  · have K := Lib.hid fun W => isSpan_no lo hi W hm
    clear hm
    go_enter Tryz.func53, Tryz.ntmps53
    go_wp2_with fail
    refine (C.out _ HB2.out (by simp; omega)).mono ?_
    rintro e w1 ⟨rfl, hb1⟩
    have B1 := Lib.hid (HB2.out.trans (hb1.mono (by simp; omega)))
    have z0 : w1.cell? ⟨w.heap.size + 1, 0, none⟩ = some (.int .i64 lo) := (hb1.cell (p := ⟨w.heap.size + 1, 0, none⟩) (by simp)).trans (by simp [go_sem])
    have z1 : w1.cell? ⟨w.heap.size + 1, 1, none⟩ = some (.int .i64 hi) := (hb1.cell (p := ⟨w.heap.size + 1, 1, none⟩) (by simp)).trans (by simp [go_sem])
    have hz := hb1.size
    clear hb1
    go_wp2_with fail
    refine (K.out _).mono ?_
    rintro e w2 ⟨rfl, hb2⟩
    have B2 := Lib.hid (B1.out.trans (hb2.mono (by simp at hz; omega)))
    clear hb2
    go_wp2_with fail
    go_ret
    exact ⟨rfl, B2.out⟩
end Go.Proofs.YtcdodfehnkgjdaaGreatDoor
