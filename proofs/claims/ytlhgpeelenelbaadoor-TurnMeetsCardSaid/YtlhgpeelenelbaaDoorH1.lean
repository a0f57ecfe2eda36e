/- Contracts of begins, and of the closures that say whether a byte fits. -/
import Derived.Test.YtlhgpeelenelbaaDoorA4
import Derived.Test.YtlhgpeelenelbaaDoorM6
import Derived.Test.YtlhgpeelenelbaaDoorR0
namespace Go.Proofs.YtlhgpeelenelbaaDoor
open Go.RowKit

set_option maxHeartbeats 1000000 in
theorem begins_any (n lo hi : Int) (w : World) (h0 : 0 ≤ n) (h1 : n ≤ 100000000) (h2 : lo ≤ 100000000) (h3 : hi ≤ 100000000) :
    Calls Tryd.prog 144 #[.int .i64 n, .int .i64 lo, .int .i64 hi] w fun e w' => e = .returned (.bool (beginsB n lo hi)) ∧ w = w' := by
  by_cases hn : n = 0
  · subst hn
    have HR : Hid (beginsB 0 lo hi = decide (lo = 0)) := Lib.hid rfl
    by_cases hl : lo = 0
    · subst hl
      go_enter Tryd.func144, Tryd.ntmps144
      go_wp2_with fail
      go_ret
      exact ⟨by rw [HR.out]; rfl, rfl⟩
    · have hl' : (lo == 0) = false := by simpa using hl
      have HL := Lib.hid hl
      clear hl
      go_enter Tryd.func144, Tryd.ntmps144
      go_wp2_with fail
      go_ret
      exact ⟨by rw [HR.out]; simp [HL.out], rfl⟩
  · have hn' : (n == 0) = false := by simpa using hn
    have HR : Hid (canL (hi + 1 - n).toNat n n lo hi = beginsB n lo hi) := Lib.hid (by unfold beginsB; rw [if_neg hn])
    generalize beginsB n lo hi = R at *
    have hn1 : 1 ≤ n := by omega
    clear hn
    go_enter Tryd.func144, Tryd.ntmps144
    go_wp2_with fail
    clear hn'
    go_loop [7, 8] (fun u v => ∃ low high : Int, u = .int .i64 low ∧ v = .int .i64 high ∧ 1 ≤ low ∧ low ≤ 1000000000 ∧ 1 ≤ high ∧ high ≤ 1000000009 ∧ canL (hi + 1 - low).toNat low high lo hi = R) (fun u _ => (hi + 1 - intOf u).toNat)
    case atStart => exact ⟨n, n, rfl, rfl, hn1, by omega, hn1, by omega, HR.out⟩
    case round =>
      obtain ⟨low, high, rfl, rfl, a1, a2, a3, a4, hr⟩ := hrel
      have HRR := Lib.hid hr
      clear hr
      by_cases c : low ≤ hi
      · by_cases c2 : lo ≤ high
        · go_wp2_with fail
          go_ret
          exact ⟨by rw [← HRR.out, canL_yes c c2]; rfl, rfl⟩
        · go_wp2_with fail
          go_round
          case rel => exact ⟨low * 10, high * 10 + 9, rfl, rfl, by omega, by omega, by omega, by omega, by rw [← HRR.out, canL_go a1 c c2]⟩
          case measure => show (hi + 1 - low * 10).toNat < (hi + 1 - low).toNat; omega
      · go_wp2_with fail
        go_ret
        exact ⟨by rw [← HRR.out, canL_stop (by omega)]; rfl, rfl⟩
end Go.Proofs.YtlhgpeelenelbaaDoor
