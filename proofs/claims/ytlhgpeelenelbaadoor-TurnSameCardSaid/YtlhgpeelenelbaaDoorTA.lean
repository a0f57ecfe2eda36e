/- Two sets in memory; contracts of checkBoth and season. -/
import Derived.Test.YtlhgpeelenelbaaDoorHB
import Derived.Test.YtlhgpeelenelbaaDoorE4
namespace Go.Proofs.YtlhgpeelenelbaaDoor
open Go.RowKit

theorem check_rm {v : Value} {ts : List T3} {ss : List S2} {c : Int} {w : World} (h : RM w.heap.size v ts ss w) (hc : CheckIs ts ss c) :
    Calls Tryd.prog 25 #[v] w fun e w' => e = .returned (.int .i64 c) ∧ Below w.heap.size w w' := by
  obtain ⟨a, b, e, a', b', e', rfl, x1, x2⟩ := h
  exact check_any _ _ ts ss c w x1 x2 hc
theorem rcheck_rm {v : Value} {ts : List T3} {ss : List S2} {c : Int} {w : World} (h : RM w.heap.size v ts ss w) (hc : CheckIs ts ss c) :
    Calls Tryd.prog 26 #[v] w fun e w' => e = .returned (.int .i64 c) ∧ Below w.heap.size w w' := by
  obtain ⟨a, b, e, a', b', e', rfl, x1, x2⟩ := h
  exact rcheck_any _ _ ts ss c w x1 x2 hc

/-- The two sets that a function holds in its first blocks. -/
abbrev N2 (w : World) (v0 v1 u0 u1 : Value) (W : World) : Prop :=
  W.cell? ⟨w.heap.size, 0, none⟩ = some v0 ∧ W.cell? ⟨w.heap.size, 1, none⟩ = some v1 ∧ W.cell? ⟨w.heap.size + 1, 0, none⟩ = some u0 ∧ W.cell? ⟨w.heap.size + 1, 1, none⟩ = some u1 ∧ w.heap.size + 1 < W.heap.size ∧ Below w.heap.size w W
def N2d (w : World) (v0 v1 u0 u1 : Value) (W : World) : Prop := N2 w v0 v1 u0 u1 W
section
variable {w W W' : World} {v0 v1 u0 u1 : Value}
theorem N2d.out (h : N2d w v0 v1 u0 u1 W) : N2 w v0 v1 u0 u1 W := h
theorem N2d.below (h : N2d w v0 v1 u0 u1 W) (hb : Below W.heap.size W W') : N2d w v0 v1 u0 u1 W' := by
  obtain ⟨a0, a1, b0, b1, l1, hB⟩ := h.out
  have hs := hb.size
  exact ⟨(hb.cell (p := ⟨w.heap.size, 0, none⟩) (by show w.heap.size < _; omega)).trans a0, (hb.cell (p := ⟨w.heap.size, 1, none⟩) (by show w.heap.size < _; omega)).trans a1, (hb.cell (p := ⟨w.heap.size + 1, 0, none⟩) l1).trans b0, (hb.cell (p := ⟨w.heap.size + 1, 1, none⟩) l1).trans b1, by omega, hB.trans (hb.mono (by omega))⟩
theorem N2d.drew (h : N2d w v0 v1 u0 u1 W) : N2d w v0 v1 u0 u1 W.drew := h.below (Below.refl _ _).drew
theorem N2d.alloc (h : N2d w v0 v1 u0 u1 W) (o : Obj) : N2d w v0 v1 u0 u1 (W.alloc o) := h.below ((Below.refl _ _).alloc (Nat.le_refl _) o)
theorem N2d.new (t t' : TypeId) : N2d w v0 v1 u0 u1 ((w.alloc (.cells #[v0, v1] t)).alloc (.cells #[u0, u1] t')) :=
  ⟨by simp [go_sem], by simp [go_sem], by simp [go_sem], by simp [go_sem], by simp, ((Below.refl _ _).alloc (Nat.le_refl _) _).alloc (by simp) _⟩
theorem N2d.bel (h : N2d w v0 v1 u0 u1 W) : Below w.heap.size w W := h.out.2.2.2.2.2
theorem N2d.siz (h : N2d w v0 v1 u0 u1 W) : w.heap.size ≤ W.heap.size := h.bel.size
end

/-- The error of two sets. -/
def BothIs (c c' d : Int) : Prop := (c ≠ 0 ∧ d = c) ∨ (c = 0 ∧ d = c')
theorem BothIs.exists_ (c c' : Int) : ∃ d, BothIs c c' d := by
  by_cases h : c = 0
  · exact ⟨_, .inr ⟨h, rfl⟩⟩
  · exact ⟨_, .inl ⟨h, rfl⟩⟩

set_option maxHeartbeats 1000000 in
set_option maxRecDepth 100000 in
theorem checkBoth_any (va vb : Value) (ts ts2 : List T3) (ss ss2 : List S2) (c c' d : Int) (w : World) (h : RM w.heap.size va ts ss w) (h' : RM w.heap.size vb ts2 ss2 w) (hc : CheckIs ts ss c) (hc' : CheckIs ts2 ss2 c') (hd : BothIs c c' d) :
    Calls Tryd.prog 98 #[va, vb] w fun e w' => e = .returned (.int .i64 d) ∧ Below w.heap.size w w' := by
  obtain ⟨A, k, ca, A', k', ca', rfl, -⟩ := id h
  obtain ⟨B, l, cb, B', l', cb', rfl, -⟩ := id h'
  have C := Lib.hid fun W (S : N2d w (.slice A k ca) (.slice A' k' ca') (.slice B l cb) (.slice B' l' cb') W) => check_rm (h.up S.siz S.bel) hc
  have C' := Lib.hid fun W (S : N2d w (.slice A k ca) (.slice A' k' ca') (.slice B l cb) (.slice B' l' cb') W) => check_rm (h'.up S.siz S.bel) hc'
  have S0 := Lib.hid (N2d.new (w := w) (v0 := .slice A k ca) (v1 := .slice A' k' ca') (u0 := .slice B l cb) (u1 := .slice B' l' cb') 25 25)
  clear h h' hc hc'
  rcases hd with ⟨h0, rfl⟩ | ⟨rfl, rfl⟩
  · go_enter Tryd.func98, Tryd.ntmps98
    go_wp2_with fail
    refine (C.out _ S0.out).mono ?_
    rintro e w1 ⟨rfl, h1⟩
    have S := Lib.hid (S0.out.below h1)
    clear h1 S0
    go_wp2_with fail
    go_ret
    exact ⟨rfl, S.out.bel⟩
  · go_enter Tryd.func98, Tryd.ntmps98
    go_wp2_with fail
    refine (C.out _ S0.out).mono ?_
    rintro e w1 ⟨rfl, h1⟩
    have S := Lib.hid (S0.out.below h1)
    clear h1 S0
    obtain ⟨t0, t1, t2, t3, t4, _⟩ := S.out.out
    go_wp2_with fail
    refine (C'.out _ S.out).mono ?_
    rintro e w2 ⟨rfl, h2⟩
    have S := Lib.hid (S.out.below h2)
    clear h2 t0 t1 t2 t3 t4
    go_wp2_with fail
    go_ret
    exact ⟨rfl, S.out.bel⟩

set_option maxHeartbeats 400000 in
theorem season_any (w : World) : Calls Tryd.prog 100 #[] w fun e w' => e = .returned (sv2 0 1048576) ∧ Below w.heap.size w w' := by
  go_enter Tryd.func100, Tryd.ntmps100
  go_wp2_with fail
  exact bodyPost_ret (v := sv2 0 1048576) (by simp [results, Tryd.results100, go_sem]) rfl ⟨rfl, (Below.refl _ _).alloc (Nat.le_refl _) _⟩
end Go.Proofs.YtlhgpeelenelbaaDoor

/- Plain mathematics: where two sets differ first. -/
namespace Go.Proofs.YtlhgpeelenelbaaDoor

/-- What Same returns. -/
def SameIs (H H' : Int → Bool) (r : Int) (b : Bool) : Prop :=
  (b = true ∧ r = 0 ∧ ∀ m, 0 ≤ m → m ≤ 1048576 → H m = H' m) ∨ (b = false ∧ 0 ≤ r ∧ r ≤ 1048576 ∧ H r ≠ H' r ∧ ∀ m, 0 ≤ m → m < r → H m = H' m)
theorem SameIs.unique {H H' : Int → Bool} {r r' : Int} {b b' : Bool} (h : SameIs H H' r b) (h' : SameIs H H' r' b') : r = r' ∧ b = b' := by
  rcases h with ⟨rfl, rfl, h⟩ | ⟨rfl, h0, h1, h2, h3⟩ <;> rcases h' with ⟨rfl, rfl, k⟩ | ⟨rfl, k0, k1, k2, k3⟩
  · exact ⟨rfl, rfl⟩
  · exact absurd (h r' k0 k1) k2
  · exact absurd (k r h0 h1) h2
  · refine ⟨?_, rfl⟩
    have a : ¬ r < r' := fun c => h2 (k3 r h0 c)
    have b : ¬ r' < r := fun c => k2 (h3 r' k0 c)
    omega

/-- One step of the search: two runs from lo on, where all before is alike. -/
theorem same_step {H H' : Int → Bool} {P P' : Int → Prop} (hH : ∀ m, H m = true ↔ P m) (hH' : ∀ m, H' m = true ↔ P' m) {lo a b a' b' : Int} (h0 : 0 ≤ lo) (hlo : lo ≤ 1048576)
    (hr : RunIs P lo 1048576 a b) (hr' : RunIs P' lo 1048576 a' b') (hl : ∀ m, 0 ≤ m → m < lo → H m = H' m) :
    (a ≠ a' → SameIs H H' (if a' < a then a' else a) false) ∧ (a = a' → b ≠ b' → SameIs H H' ((if b' < b then b' else b) + 1) false ∧ b ≤ 1048576 ∧ b' ≤ 1048576) ∧
    (a = a' → b = b' → (b = 1099511627776 ∧ SameIs H H' 0 true) ∨ (lo ≤ b ∧ b ≤ 1048576 ∧ ∀ m, 0 ≤ m → m < b + 1 → H m = H' m)) := by
  have f0 : ∀ m, ¬ P m → H m = false := fun m hm => by
    cases e : H m with
    | false => rfl
    | true => exact absurd ((hH m).1 e) hm
  have f1 : ∀ m, ¬ P' m → H' m = false := fun m hm => by
    cases e : H' m with
    | false => rfl
    | true => exact absurd ((hH' m).1 e) hm
  have t0 : ∀ m, P m → H m = true := fun m hm => (hH m).2 hm
  have t1 : ∀ m, P' m → H' m = true := fun m hm => (hH' m).2 hm
  refine ⟨?_, ?_, ?_⟩
  · intro hne
    rcases hr with ⟨rfl, rfl, n0⟩ | ⟨r0, r1, r2, r3, r4, r5⟩
    · rcases hr' with ⟨rfl, rfl, _⟩ | ⟨s0, s1, s2, s3, s4, s5⟩
      · exact absurd rfl hne
      · rw [if_pos (by omega)]
        refine .inr ⟨rfl, by omega, by omega, ?_, fun m m0 m1 => ?_⟩
        · rw [f0 a' (n0 a' s0 (by omega)), t1 a' (s4 a' (Int.le_refl _) s1)]; simp
        · by_cases c : m < lo
          · exact hl m m0 c
          · rw [f0 m (n0 m (by omega) (by omega)), f1 m (s3 m (by omega) m1)]
    · rcases hr' with ⟨rfl, rfl, n1⟩ | ⟨s0, s1, s2, s3, s4, s5⟩
      · rw [if_neg (by omega)]
        refine .inr ⟨rfl, by omega, by omega, ?_, fun m m0 m1 => ?_⟩
        · rw [t0 a (r4 a (Int.le_refl _) r1), f1 a (n1 a r0 (by omega))]; simp
        · by_cases c : m < lo
          · exact hl m m0 c
          · rw [f0 m (r3 m (by omega) m1), f1 m (n1 m (by omega) (by omega))]
      · by_cases d : a' < a
        · rw [if_pos d]
          refine .inr ⟨rfl, by omega, by omega, ?_, fun m m0 m1 => ?_⟩
          · rw [f0 a' (r3 a' s0 d), t1 a' (s4 a' (Int.le_refl _) s1)]; simp
          · by_cases c : m < lo
            · exact hl m m0 c
            · rw [f0 m (r3 m (by omega) (by omega)), f1 m (s3 m (by omega) m1)]
        · rw [if_neg d]
          refine .inr ⟨rfl, by omega, by omega, ?_, fun m m0 m1 => ?_⟩
          · rw [t0 a (r4 a (Int.le_refl _) r1), f1 a (s3 a r0 (by omega))]; simp
          · by_cases c : m < lo
            · exact hl m m0 c
            · rw [f0 m (r3 m (by omega) m1), f1 m (s3 m (by omega) (by omega))]
  · intro he hne
    subst he
    rcases hr with ⟨rfl, rfl, n0⟩ | ⟨r0, r1, r2, r3, r4, r5⟩
    · rcases hr' with ⟨_, rfl, _⟩ | ⟨s0, s1, s2, s3, s4, s5⟩
      · exact absurd rfl hne
      · omega
    · rcases hr' with ⟨h, _⟩ | ⟨s0, s1, s2, s3, s4, s5⟩
      · omega
      · refine ⟨?_, r2, s2⟩
        have low : ∀ m, 0 ≤ m → m ≤ b → m ≤ b' → H m = H' m := fun m m0 m1 m2 => by
          by_cases c : m < lo
          · exact hl m m0 c
          · by_cases e : m < a
            · rw [f0 m (r3 m (by omega) e), f1 m (s3 m (by omega) e)]
            · rw [t0 m (r4 m (by omega) m1), t1 m (s4 m (by omega) m2)]
        by_cases d : b' < b
        · rw [if_pos d]
          refine .inr ⟨rfl, by omega, by omega, ?_, fun m m0 m1 => low m m0 (by omega) (by omega)⟩
          rw [t0 (b' + 1) (r4 _ (by omega) (by omega)), f1 (b' + 1) (by rcases s5 with h | h; omega; exact h)]; simp
        · rw [if_neg d]
          refine .inr ⟨rfl, by omega, by omega, ?_, fun m m0 m1 => low m m0 (by omega) (by omega)⟩
          rw [f0 (b + 1) (by rcases r5 with h | h; omega; exact h), t1 (b + 1) (s4 _ (by omega) (by omega))]; simp
  · intro he he2
    subst he he2
    rcases hr with ⟨rfl, rfl, n0⟩ | ⟨r0, r1, r2, r3, r4, r5⟩
    · rcases hr' with ⟨_, _, n1⟩ | ⟨s0, s1, s2, s3, s4, s5⟩
      · refine .inl ⟨rfl, .inl ⟨rfl, rfl, fun m m0 m1 => ?_⟩⟩
        by_cases c : m < lo
        · exact hl m m0 c
        · rw [f0 m (n0 m (by omega) m1), f1 m (n1 m (by omega) m1)]
      · omega
    · rcases hr' with ⟨h, _⟩ | ⟨s0, s1, s2, s3, s4, s5⟩
      · omega
      · refine .inr ⟨by omega, r2, fun m m0 m1 => ?_⟩
        by_cases c : m < lo
        · exact hl m m0 c
        · by_cases e : m < a
          · rw [f0 m (r3 m (by omega) e), f1 m (s3 m (by omega) e)]
          · rw [t0 m (r4 m (by omega) (by omega)), t1 m (s4 m (by omega) (by omega))]
end Go.Proofs.YtlhgpeelenelbaaDoor

/- Contract of the specification's Same. -/
namespace Go.Proofs.YtlhgpeelenelbaaDoor
open Go.RowKit

set_option maxHeartbeats 4000000 in
set_option maxRecDepth 100000 in
theorem rsame_err (va vb : Value) (ts ts2 : List T3) (ss ss2 : List S2) (c c' d : Int) (w : World) (h : RM w.heap.size va ts ss w) (h' : RM w.heap.size vb ts2 ss2 w) (hc : CheckIs ts ss c) (hc' : CheckIs ts2 ss2 c') (hd : BothIs c c' d) (h0 : d = 1 ∨ d = 2) :
    Calls Tryd.prog 44 #[va, vb] w fun e w' => e = .returned (.tuple #[.int .i64 0, .bool false, .int .i64 d]) ∧ Below w.heap.size w w' := by
  obtain ⟨A, k, ca, A', k', ca', rfl, -⟩ := id h
  obtain ⟨B, l, cb, B', l', cb', rfl, -⟩ := id h'
  have C := Lib.hid fun W (S : N2d w (.slice A k ca) (.slice A' k' ca') (.slice B l cb) (.slice B' l' cb') W) => rcheck_rm (h.up S.siz S.bel) hc
  have C' := Lib.hid fun W (S : N2d w (.slice A k ca) (.slice A' k' ca') (.slice B l cb) (.slice B' l' cb') W) => rcheck_rm (h'.up S.siz S.bel) hc'
  have S0 := Lib.hid (N2d.new (w := w) (v0 := .slice A k ca) (v1 := .slice A' k' ca') (u0 := .slice B l cb) (u1 := .slice B' l' cb') 25 25)
  clear h h' hc hc'
  rcases hd with ⟨h1, rfl⟩ | ⟨rfl, rfl⟩
  · rcases h0 with rfl | rfl
    all_goals
      go_enter Tryd.func44, Tryd.ntmps44
      go_wp2_with fail
      refine (C.out _ S0.out).mono ?_
      rintro e w1 ⟨rfl, h1⟩
      have S := Lib.hid (S0.out.below h1)
      clear h1 S0
      go_wp2_with fail
      go_ret3
      exact ⟨rfl, S.out.bel⟩
  · rcases h0 with rfl | rfl
    all_goals
      go_enter Tryd.func44, Tryd.ntmps44
      go_wp2_with fail
      refine (C.out _ S0.out).mono ?_
      rintro e w1 ⟨rfl, h1⟩
      have S := Lib.hid (S0.out.below h1)
      clear h1 S0
      obtain ⟨t0, t1, t2, t3, t4, _⟩ := S.out.out
      go_wp2_with fail
      refine (C'.out _ S.out).mono ?_
      rintro e w2 ⟨rfl, h2⟩
      have S := Lib.hid (S.out.below h2)
      clear h2 t0 t1 t2 t3 t4
      go_wp2_with fail
      go_ret3
      exact ⟨rfl, S.out.bel⟩

set_option maxHeartbeats 4000000 in
set_option maxRecDepth 100000 in
theorem rsame_ok (va vb : Value) (ts ts2 : List T3) (ss ss2 : List S2) (r : Int) (b : Bool) (w : World) (h : RM w.heap.size va ts ss w) (h' : RM w.heap.size vb ts2 ss2 w) (hc : CheckIs ts ss 0) (hc' : CheckIs ts2 ss2 0)
    (hs : SameIs (setB (lotsOf ts ss)) (setB (lotsOf ts2 ss2)) r b) :
    Calls Tryd.prog 44 #[va, vb] w fun e w' => e = .returned (.tuple #[.int .i64 r, .bool b, .int .i64 0]) ∧ Below w.heap.size w w' := by
  obtain ⟨A, k, ca, A', k', ca', rfl, -⟩ := id h
  obtain ⟨B, l, cb, B', l', cb', rfl, -⟩ := id h'
  obtain ⟨k1, k2, k3⟩ := checkIs_ok hc
  obtain ⟨l1, l2, l3⟩ := checkIs_ok hc'
  have C := Lib.hid fun W (S : N2d w (.slice A k ca) (.slice A' k' ca') (.slice B l cb) (.slice B' l' cb') W) => rcheck_rm (h.up S.siz S.bel) hc
  have C' := Lib.hid fun W (S : N2d w (.slice A k ca) (.slice A' k' ca') (.slice B l cb) (.slice B' l' cb') W) => rcheck_rm (h'.up S.siz S.bel) hc'
  have R := Lib.hid fun n W (n0 : -1000000000 ≤ n) (n1 : n ≤ 1000000000) (S : N2d w (.slice A k ca) (.slice A' k' ca') (.slice B l cb) (.slice B' l' cb') W) => rhas_any _ ts ss n W (h.up S.siz S.bel) k3 k1 k2 n0 n1
  have R' := Lib.hid fun n W (n0 : -1000000000 ≤ n) (n1 : n ≤ 1000000000) (S : N2d w (.slice A k ca) (.slice A' k' ca') (.slice B l cb) (.slice B' l' cb') W) => rhas_any _ ts2 ss2 n W (h'.up S.siz S.bel) l3 l1 l2 n0 n1
  generalize setB (lotsOf ts ss) = H at *
  generalize setB (lotsOf ts2 ss2) = H' at *
  have HS := Lib.hid hs
  have S0 := Lib.hid (N2d.new (w := w) (v0 := .slice A k ca) (v1 := .slice A' k' ca') (u0 := .slice B l cb) (u1 := .slice B' l' cb') 25 25)
  clear h h' hc hc' k3 l3 hs
  go_enter Tryd.func44, Tryd.ntmps44
  go_wp2_with fail
  refine (C.out _ S0.out).mono ?_
  rintro e w1 ⟨rfl, h1⟩
  have S := Lib.hid (S0.out.below h1)
  clear h1 S0
  obtain ⟨t0, t1, t2, t3, t4, _⟩ := S.out.out
  go_wp2_with fail
  refine (C'.out _ S.out).mono ?_
  rintro e w2 ⟨rfl, h2⟩
  have S := Lib.hid (S.out.below h2)
  clear h2 t0 t1 t2 t3 t4
  go_wp2_with fail
  go_loopw [8] (fun u wr => ∃ m : Int, u = .int .i64 m ∧ 0 ≤ m ∧ m ≤ 1048577 ∧ (∀ i, 0 ≤ i → i < m → H i = H' i) ∧ N2d w (.slice A k ca) (.slice A' k' ca') (.slice B l cb) (.slice B' l' cb') wr) (fun u _ => (1048577 - intOf u).toNat)
  case atStart => exact ⟨0, rfl, by omega, by omega, fun i _ _ => by omega, S.out⟩
  case round =>
    obtain ⟨m, rfl, m0, m1, hl, S3⟩ := hrel
    have HL := Lib.hid hl
    have S := Lib.hid S3
    clear hl S3
    by_cases hlt : m ≤ 1048576
    · have Ra := Lib.hid fun W S => R.out m W (by omega) (by omega) S
      have Rb := Lib.hid fun W S => R'.out m W (by omega) (by omega) S
      obtain ⟨x, hx⟩ : ∃ x, H m = x := ⟨_, rfl⟩
      obtain ⟨y, hy⟩ : ∃ y, H' m = y := ⟨_, rfl⟩
      rw [hx] at Ra
      rw [hy] at Rb
      have HX := Lib.hid hx
      have HY := Lib.hid hy
      clear hx hy
      obtain ⟨t0, t1, t2, t3, t4, _⟩ := S.out.out
      cases x <;> cases y
      all_goals
        go_wp2_with fail
        refine (Ra.out _ S.out).mono ?_
        rintro e w3 ⟨rfl, h3⟩
        have S := Lib.hid (S.out.below h3)
        clear h3 t0 t1 t2 t3 t4
        obtain ⟨t0, t1, t2, t3, t4, _⟩ := S.out.out
        go_wp2_with fail
        refine (Rb.out _ S.out).mono ?_
        rintro e w4 ⟨rfl, h4⟩
        have S := Lib.hid (S.out.below h4)
        clear h4 t0 t1 t2 t3 t4
        go_wp2_with fail
        first
          | (go_ret3
             obtain ⟨rfl, rfl⟩ := SameIs.unique HS.out (.inr ⟨rfl, m0, hlt, by rw [HX.out, HY.out]; decide, HL.out⟩)
             exact ⟨rfl, S.out.bel⟩)
          | (go_roundw
             case rel => exact ⟨m + 1, rfl, by omega, by omega, fun i i0 i1 => (by
               by_cases c : i < m
               · exact HL.out i i0 c
               · obtain rfl : i = m := by omega
                 rw [HX.out, HY.out]), S.out⟩
             case measure => show (1048577 - (m + 1)).toNat < (1048577 - m).toNat; omega)
    · obtain ⟨rfl, rfl⟩ := SameIs.unique HS.out (.inl ⟨rfl, rfl, fun i i0 i1 => HL.out i i0 (by omega)⟩)
      go_wp2_with fail
      go_ret3
      exact ⟨rfl, S.out.bel⟩
end Go.Proofs.YtlhgpeelenelbaaDoor
