/- Contract of Spans. -/
import Derived.Test.YtcdodfehnkgjdaaGreatDoorE5
namespace Go.Proofs.YtcdodfehnkgjdaaGreatDoor
open Go.RowKit

theorem spn_len_succ (H : Int → Bool) (lo : Int) (k : Nat) : (spn H lo k).length ≤ (spn H lo (k + 1)).length := by
  show _ ≤ (if H (lo + k) = true then more (spn H lo k) (lo + k) else spn H lo k).length
  split
  · rcases list_cases (spn H lo k) with e | ⟨i, x, e⟩
    · rw [e]; simp
    · rw [e, more_snoc]; split <;> simp
  · exact Nat.le_refl _
theorem spn_len_mono (H : Int → Bool) (lo : Int) {k k' : Nat} (h : k ≤ k') : (spn H lo k).length ≤ (spn H lo k').length := by
  obtain ⟨d, rfl⟩ := Nat.exists_eq_add_of_le h
  induction d with
  | zero => exact Nat.le_refl _
  | succ d ih => exact Nat.le_trans (ih (Nat.le_add_right _ _)) (spn_len_succ H lo (k + d))

/-- A list of spans that is returned, or an error. -/
def ListIs (d : Int) (full l : List S2) (c : Int) : Prop := (d ≠ 0 ∧ l = [] ∧ c = d) ∨ (d = 0 ∧ full.length ≤ 2000 ∧ l = full ∧ c = 0) ∨ (d = 0 ∧ 2000 < full.length ∧ l = [] ∧ c = 2)
def ListPost (d : Int) (full : List S2) (w : World) (e : Ending) (w' : World) : Prop :=
  ∃ v l c, e = .returned (.tuple #[v, .int .i64 c]) ∧ RS w'.heap.size v l w' ∧ Below w.heap.size w w' ∧ ListIs d full l c
theorem rs_nil (w : World) (B : Nat) : RS B (.slice none 0 0) [] w := ⟨none, 0, rfl, by simp, fun h => by simp at h⟩

theorem listed_post {S Sp : List S2 → Prop} {full : List S2} {w : World} {e : Ending} {w' : World} (h : ListedPost S Sp w e w') (hS : ∀ l, S l → l = full) (hSp : ∀ p, Sp p → p.length ≤ full.length) : ListPost 0 full w e w' := by
  rcases h with ⟨xs, v, h1, h2, h3, h4, h5⟩ | ⟨pre, h1, h2, h3, h5⟩
  · obtain rfl := hS xs h1
    exact ⟨v, xs, 0, h3, rs_of_row h4 (by omega), h5, .inr (.inl ⟨rfl, h2, rfl, rfl⟩)⟩
  · have := hSp pre h1
    exact ⟨_, [], 2, h3, rs_nil _ _, h5, .inr (.inr ⟨rfl, by omega, rfl, rfl⟩)⟩

set_option maxHeartbeats 2000000 in
set_option maxRecDepth 1000000 in
theorem spans_any (v : Value) (ts : List T3) (ss : List S2) (lo hi c d : Int) (w : World) (h : RM w.heap.size v ts ss w) (hc : CheckIs ts ss c) (hd : InIs c lo hi d) :
    Calls Tryz.prog 20 #[v, sv2 lo hi] w (ListPost d (spn (setB (lotsOf ts ss)) lo (hi + 1 - lo).toNat) w) := by
  have H := Lib.hid h
  obtain ⟨A, m, ca, A', m', ca', rfl, h1, h2⟩ := h
  have HB2 := Lib.hid (below_two w (.cells #[.slice A m ca, .slice A' m' ca'] 25) (.cells #[.int .i64 lo, .int .i64 hi] 45))
  have C : Hid (∀ W, Below w.heap.size w W → w.heap.size ≤ W.heap.size → Calls Tryz.prog 53 #[.agg #[.slice A m ca, .slice A' m' ca'], sv2 lo hi] W fun e w' => e = .returned (.int .i64 d) ∧ Below W.heap.size W w') :=
    Lib.hid fun W hb hs => checkIn_any _ ts ss lo hi c d W (H.out.up hs hb) hc hd
  clear h1 h2
  by_cases h0 : d = 0
  · subst h0
    obtain ⟨rfl, s1, s2, s3⟩ := inIs_ok hd
    obtain ⟨k1, k2, k3⟩ := checkIs_ok hc
    have HK := Lib.hid k3
    clear hd hc k3
    go_enter Tryz.func20, Tryz.ntmps20
    go_wp2_with fail
    refine (C.out _ HB2.out (by simp; omega)).mono ?_
    rintro e w1 ⟨rfl, hb1⟩
    have hz := hb1.size
    have y0 : w1.cell? ⟨w.heap.size, 0, none⟩ = some (.slice A m ca) := (hb1.cell (p := ⟨w.heap.size, 0, none⟩) (by simp; omega)).trans (by simp [go_sem])
    have y1 : w1.cell? ⟨w.heap.size, 1, none⟩ = some (.slice A' m' ca') := (hb1.cell (p := ⟨w.heap.size, 1, none⟩) (by simp; omega)).trans (by simp [go_sem])
    have z0 : w1.cell? ⟨w.heap.size + 1, 0, none⟩ = some (.int .i64 lo) := (hb1.cell (p := ⟨w.heap.size + 1, 0, none⟩) (by simp)).trans (by simp [go_sem])
    have z1 : w1.cell? ⟨w.heap.size + 1, 1, none⟩ = some (.int .i64 hi) := (hb1.cell (p := ⟨w.heap.size + 1, 1, none⟩) (by simp)).trans (by simp [go_sem])
    have B1 := Lib.hid (HB2.out.trans (hb1.mono (by simp; omega)))
    have hl0 : w.heap.size ≤ w1.heap.size := by simp at hz; omega
    clear hb1
    go_wp2_with fail
    refine (runs_any A m ca A' m' ca' lo hi _).mono ?_
    rintro e w2 ⟨rfl, rfl⟩
    have b2 := below_two w1 (.cells #[.slice A m ca, .slice A' m' ca'] 25) (.cells #[.int .i64 lo, .int .i64 hi] 45)
    have hrm := H.out.up (B' := ((w1.alloc (.cells #[.slice A m ca, .slice A' m' ca'] 25)).alloc (.cells #[.int .i64 lo, .int .i64 hi] 45)).heap.size) (by simp; omega) (B1.out.trans (b2.mono hl0))
    have L := Lib.hid (listed_any 73 _ enters_runs1 _ _ _ (runs_seq w1.heap.size (w1.heap.size + 1) A m ca A' m' ca' ts ss lo hi _ HK.out k1 k2 hrm (by simp [go_sem]) (by simp [go_sem]) (by simp [go_sem]) (by simp [go_sem]) s1 (by omega) s3))
    have B2 := Lib.hid (B1.out.trans (b2.mono hl0))
    clear b2 hrm y0 y1 z0 z1
    go_wp2_with fail
    refine L.out.mono ?_
    rintro e w3 h3
    obtain ⟨v3, l, c3, rfl, r1, r2, r3⟩ := listed_post (full := spn (setB (lotsOf ts ss)) lo (hi + 1 - lo).toNat) h3 (fun l h => h) (fun p hp => by obtain ⟨k, hk, rfl⟩ := hp; exact spn_len_mono _ _ (by omega))
    have R := Lib.hid (And.intro r1 r3)
    have B3 := Lib.hid (B2.out.trans (r2.mono (by simp; omega)))
    clear h3 r1 r2 r3
    go_wp2_with fail
    go_ret2
    exact ⟨_, l, _, rfl, R.out.1, B3.out, R.out.2⟩
  · have hb0 : (d != 0) = true := by rw [bne_iff_ne]; exact h0
    have H0 := Lib.hid h0
    clear hd hc h0
    go_enter Tryz.func20, Tryz.ntmps20
    go_wp2_with fail
    refine (C.out _ HB2.out (by simp; omega)).mono ?_
    rintro e w1 ⟨rfl, hb1⟩
    have B1 := Lib.hid (HB2.out.trans (hb1.mono (by simp; omega)))
    clear hb1
    go_wp2_with fail
    go_ret2
    exact ⟨_, [], d, rfl, rs_nil _ _, B1.out, .inl ⟨H0.out, rfl, rfl⟩⟩
end Go.Proofs.YtcdodfehnkgjdaaGreatDoor
