/- Contract of Period, where the set is right. -/
import Derived.Test.YtlhgpeelenelbaaDoorF2
namespace Go.Proofs.YtlhgpeelenelbaaDoor
open Go.RowKit

def PeriodPost (ts : List T3) (w : World) (e : Ending) (w' : World) : Prop :=
  ((Over ts ∧ e = .returned (.tuple #[.int .i64 0, .int .i64 2])) ∨
   (¬ Over ts ∧ 1 ≤ lcmS ts ∧ lcmS ts ≤ 40320 ∧ ∃ p : Nat, 1 ≤ p ∧ p ≤ (roundOf ts).length ∧ RepB (roundOf ts) p ∧ (∀ q, 1 ≤ q → q < p → ¬ RepB (roundOf ts) q) ∧ e = .returned (.tuple #[.int .i64 p, .int .i64 0]))) ∧ Below w.heap.size w w'

set_option maxHeartbeats 1000000 in
theorem period_main (v : Value) (ts : List T3) (w : World) (h : RM w.heap.size v ts [] w) (hc : CheckIs ts [] 0) (h1 : 1 ≤ ts.length) :
    Calls Tryd.prog 46 #[v] w (PeriodPost ts w) := by
  have H := Lib.hid h
  obtain ⟨A, m, ca, A', m', ca', rfl, -, -⟩ := h
  have C : Hid (∀ W, Below w.heap.size w W → w.heap.size ≤ W.heap.size → Calls Tryd.prog 103 #[.agg #[.slice A m ca, .slice A' m' ca']] W (AroundPost ts W)) :=
    Lib.hid fun W hb hs => around_main _ ts W (H.out.up hs hb) hc h1
  clear hc h1
  go_enter Tryd.func46, Tryd.ntmps46
  go_wp2_with fail
  refine (C.out _ ((Below.refl w.heap.size w).alloc (Nat.le_refl _) _) (by simp)).mono ?_
  rintro e w1 (⟨ho, rfl, hb⟩ | ⟨ho, l1, l2, g, p, p1, p2, p3, p4, rfl, hg, hrb, hb⟩)
  · have HB := Lib.hid (((Below.refl w.heap.size w).alloc (Nat.le_refl _) (.cells #[.slice A m ca, .slice A' m' ca'] 25)).trans (hb.mono (by simp)))
    have HO := Lib.hid ho
    clear hb ho
    go_wp2_with fail
    go_ret2
    exact ⟨.inl ⟨HO.out, rfl⟩, HB.out⟩
  · have HB := Lib.hid (((Below.refl w.heap.size w).alloc (Nat.le_refl _) (.cells #[.slice A m ca, .slice A' m' ca'] 25)).trans (hb.mono (by simp)))
    have HP := Lib.hid (And.intro ho (And.intro l1 (And.intro l2 (And.intro p1 (And.intro p2 (And.intro p3 p4))))))
    clear hb ho p1 p3 p4 l1 l2 hrb
    obtain ⟨rl, hrl⟩ : ∃ n, n = (roundOf ts).length := ⟨_, rfl⟩
    rw [← hrl]
    clear p2 hrl
    go_wp2_with fail
    go_ret2
    obtain ⟨a1, a2, a3, a4, a5, a6, a7⟩ := HP.out
    exact ⟨.inr ⟨a1, a2, a3, p, a4, a5, a6, a7, rfl⟩, HB.out⟩
end Go.Proofs.YtlhgpeelenelbaaDoor
