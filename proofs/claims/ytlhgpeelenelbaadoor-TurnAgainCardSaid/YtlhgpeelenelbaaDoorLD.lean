/- The walk of the law TurnAgain. -/
import Derived.Test.YtlhgpeelenelbaaDoorAG
namespace Go.Proofs.YtlhgpeelenelbaaDoor
open Go.RowKit

set_option maxHeartbeats 16000000 in
set_option maxRecDepth 100000 in
theorem again_limit (hsan : ∀ W, Calls Tryd.prog 16 #[] W fun e w' => e = .returned (.bool true) ∧ Below W.heap.size W w') (A A' : Option Addr) (k c k' c' : Nat) (sm p : Int) (P : Nat) (H : Int → Bool) (l : List T3) (w : World) (s0 : 0 ≤ sm) (s1 : sm ≤ 65535) (p0 : 1 ≤ p) (p1 : p ≤ 40320) (hpP : p = P) (hP : PerH H P) (hd : 24 < runU H P P)
    (F1 : Hid (∀ W, Calls Tryd.prog 15 #[.agg #[.slice A k c, .slice A' k' c']] W fun e w' => e = .returned (.bool true) ∧ Below W.heap.size W w'))
    (C0 : Hid (∀ W, NSd w (.slice A k c) (.slice A' k' c') W → Calls Tryd.prog 45 #[.agg #[.slice A k c, .slice A' k' c'], .int .i64 2520] W (SoonPost W)))
    (C1 : Hid (∀ W, NSd w (.slice A k c) (.slice A' k' c') W → Calls Tryd.prog 46 #[.agg #[.slice A k c, .slice A' k' c']] W fun e w' => e = .returned (.tuple #[.int .i64 p, .int .i64 0]) ∧ Below W.heap.size W w'))
    (C3 : Hid (∀ W, NSd w (.slice A k c) (.slice A' k' c') W → Calls Tryd.prog 48 #[.agg #[.slice A k c, .slice A' k' c']] W fun e w' => ∃ X nx cx, e = .returned (.tuple #[.agg #[.slice X nx cx, .slice none 0 0], .int .i64 2]) ∧ RT w'.heap.size (.slice X nx cx) l w' ∧ Below W.heap.size W w'))
    (CM : Hid (∀ d W, 1 ≤ d → d < p → p % d = 0 → NSd w (.slice A k c) (.slice A' k' c') W → Calls Tryd.prog 64 #[.agg #[.slice A k c, .slice A' k' c'], .int .i64 d, .int .i64 p] W fun e w' => e = .returned (.bool false) ∧ Below W.heap.size W w'))
    (CP : Hid (∀ W, NSd w (.slice A k c) (.slice A' k' c') W → Calls Tryd.prog 64 #[.agg #[.slice A k c, .slice A' k' c'], .int .i64 p, .int .i64 p] W fun e w' => e = .returned (.bool true) ∧ Below W.heap.size W w'))
    (HA : Hid (∀ n W, 0 ≤ n → n ≤ 1000000 → NSd w (.slice A k c) (.slice A' k' c') W → Calls Tryd.prog 55 #[.agg #[.slice A k c, .slice A' k' c'], .int .i64 n] W fun e w' => e = .returned (.bool (H n)) ∧ Below W.heap.size W w')) :
    Calls Tryd.prog 13 #[.agg #[.slice A k c, .slice A' k' c'], .int .u16 sm] w fun e w' => e = .returned (.bool true) ∧ Below w.heap.size w w' := by
  have HS := Lib.hid hsan
  have S0 := Lib.hid (NSd.new (w := w) (v0 := .slice A k c) (v1 := .slice A' k' c') 25)
  have HPP := Lib.hid hpP
  have HPH := Lib.hid hP
  have HD := Lib.hid hd
  have G1 : (decide (p < 1)) = false := decide_eq_false (by omega)
  have G2 : (decide (40320 < p)) = false := decide_eq_false (by omega)
  have XB : IntKind.i64.wrap sm = sm := IntWalk.i64_in _ (by omega)
  clear hsan hpP hP hd
  go_enter Tryd.func13, Tryd.ntmps13
  go_wp2_with fail
  refine (F1.out _).mono ?_
  rintro e w1 ⟨rfl, h1⟩
  have S := Lib.hid (S0.out.below h1)
  clear h1 S0 F1
  obtain ⟨t0, t1, t2, _⟩ := S.out.out
  go_wp2_with fail
  refine (C0.out _ S.out).mono ?_
  rintro e w2 ⟨⟨b, rfl⟩, h2⟩
  have S := Lib.hid (S.out.below h2)
  clear h2 t0 t1 t2 C0
  cases b
  · go_wp2_with fail
    refine (HS.out _).mono ?_
    rintro e w3 ⟨rfl, h3⟩
    have S := Lib.hid (S.out.below h3)
    clear h3
    go_wp2_with fail
    go_ret
    exact ⟨rfl, S.out.bel⟩
  obtain ⟨t0, t1, t2, _⟩ := S.out.out
  go_wp2_with fail
  refine (C1.out _ S.out).mono ?_
  rintro e w3 ⟨rfl, h3⟩
  have S := Lib.hid (S.out.below h3)
  clear h3 t0 t1 t2 C1
  obtain ⟨t0, t1, t2, _⟩ := S.out.out
  go_wp2_with fail
  refine (C3.out _ S.out).mono ?_
  rintro e w5 ⟨X, nx, cx, rfl, r1, h5⟩
  have ba := (Below.refl w5.heap.size w5).alloc (Nat.le_refl _) (.cells #[.slice X nx cx, .slice none 0 0] 25)
  have S : Hid (AgS w (.slice A k c) (.slice A' k' c') w5.heap.size X nx cx l (w5.alloc (.cells #[.slice X nx cx, .slice none 0 0] 25))) := Lib.hid ⟨(S.out.below h5).below ba, Two.new (W := w5) (x := .slice X nx cx) (y := .slice none 0 0) 25, r1.later ba⟩
  clear h5 r1 ba t0 t1 t2 C3
  go_wp2_with fail
  generalize w5.heap.size = b at *
  go_loopw [9] (fun u wr => ∃ d : Int, u = .int .i64 d ∧ 1 ≤ d ∧ d ≤ p ∧ AgS w (.slice A k c) (.slice A' k' c') b X nx cx l wr) (fun u _ => (p - intOf u).toNat)
  case atStart => exact ⟨1, rfl, by omega, p0, S.out⟩
  case round =>
    obtain ⟨d, rfl, d0, d1, S3⟩ := hrel
    clear S
    have S := Lib.hid S3
    clear S3
    obtain ⟨t0, t1, t2, _⟩ := S.out.ns.out
    by_cases hlt : d < p
    · have XA : ¬ d = 0 := by omega
      have XE : (d == 0) = false := beq_eq_false_iff_ne.2 (by omega)
      have XC : p.tmod d = p % d := Int.tmod_eq_emod_of_nonneg (by omega)
      have XD : 0 ≤ p % d := Int.emod_nonneg _ (by omega)
      have XF : p % d < d := Int.emod_lt_of_pos _ (by omega)
      have XG : IntKind.i64.wrap (p % d) = p % d := IntWalk.i64_in _ (by omega)
      by_cases hm : p % d = 0
      · have XH : (p % d == 0) = true := beq_iff_eq.2 hm
        have CC := Lib.hid fun W S => CM.out d W d0 hlt hm S
        clear hm XD XF
        go_wp2_with fail
        refine (CC.out _ S.out.ns).mono ?_
        rintro e w6 ⟨rfl, h6⟩
        have S := Lib.hid (S.out.below h6)
        clear h6 t0 t1 t2 CC
        go_wp2_with fail
        go_roundw
        case rel => exact ⟨d + 1, rfl, by omega, by omega, S.out⟩
        case measure => show (p - (d + 1)).toNat < (p - d).toNat; omega
      · have XH : (p % d == 0) = false := beq_eq_false_iff_ne.2 hm
        clear hm XD XF
        go_wp2_with fail
        go_roundw
        case rel => exact ⟨d + 1, rfl, by omega, by omega, S.out⟩
        case measure => show (p - (d + 1)).toNat < (p - d).toNat; omega
    clear CM
    go_wp2_with fail
    obtain ⟨x, hx⟩ : ∃ x, H sm = x := ⟨_, rfl⟩
    have CA := Lib.hid fun W S => HA.out sm W s0 (by omega) S
    rw [hx] at CA
    have CB := Lib.hid fun W S => HA.out (sm + p) W (by omega) (by omega) S
    rw [show H (sm + p) = x by rw [HPP.out, HPH.out, hx]] at CB
    have HX := Lib.hid hx
    have XM : IntKind.i64.wrap (sm + p) = sm + p := IntWalk.i64_in _ (by omega)
    clear hx
    have S := Lib.hid (S.out.drew)
    clear t0 t1 t2
    refine wp_region_held_drew (S := NS w (.slice A k c) (.slice A' k' c')) (by kernel_rfl) ?_ (fun hHeld => ?_)
    · exact NSd.out S.out.ns
    refine takeW (i := 0) (d := some 67) (v := ?_) rfl rfl (by kernel_rfl) (by kernel_rfl) (by kernel_rfl) (fun _ _ _ h => h) (by rfl) ?_ (by assumption) ?_
    rotate_left
    · (intro w hSw; (try dsimp only at hSw); go_simp; try with_reducible rfl)
    try simp only [Act.put, List.setIfInBounds_toArray, List.set_cons_zero, List.set_cons_succ]
    refine takeW (i := 1) (d := some 68) (v := ?_) rfl rfl (by kernel_rfl) (by kernel_rfl) (by kernel_rfl) (fun _ _ _ h => h) (by rfl) ?_ (by assumption) ?_
    rotate_left
    · (intro w hSw; (try dsimp only at hSw); go_simp; try with_reducible rfl)
    try simp only [Act.put, List.setIfInBounds_toArray, List.set_cons_zero, List.set_cons_succ]
    refine takeW (i := 2) (d := some 69) (v := ?_) rfl rfl (by kernel_rfl) (by kernel_rfl) (by kernel_rfl) (fun _ _ _ h => h) (by rfl) ?_ (by assumption) ?_
    rotate_left
    · (intro w hSw; (try dsimp only at hSw); go_simp; try with_reducible rfl)
    try simp only [Act.put, List.setIfInBounds_toArray, List.set_cons_zero, List.set_cons_succ]
    refine wpAnyH_ready (rs := [3]) (by kernel_rfl) (by simp) ?_
    refine AllReadyH.cons rfl (fun K hK => ?_) AllReadyH.nil
    go_simp
    refine (CP.out _ S.out.ns).mono ?_
    rintro e w4 ⟨rfl, b1⟩
    have S := Lib.hid (S.out.below b1)
    clear b1
    refine hK.out _ _ ?_ (fun hHeld => ?_)
    · exact NSd.out S.out.ns
    clear hK K
    try simp only [Act.put, List.setIfInBounds_toArray, List.set_cons_zero, List.set_cons_succ]
    refine takeW (i := 4) (d := some 71) (v := ?_) rfl rfl (by kernel_rfl) (by kernel_rfl) (by kernel_rfl) (fun _ _ _ h => h) (by rfl) ?_ (by assumption) ?_
    rotate_left
    · (intro w hSw; (try dsimp only at hSw); go_simp; try with_reducible rfl)
    try simp only [Act.put, List.setIfInBounds_toArray, List.set_cons_zero, List.set_cons_succ]
    refine takeW (i := 5) (d := some 72) (v := ?_) rfl rfl (by kernel_rfl) (by kernel_rfl) (by kernel_rfl) (fun _ _ _ h => h) (by rfl) ?_ (by assumption) ?_
    rotate_left
    · (intro w hSw; (try dsimp only at hSw); go_simp; try with_reducible rfl)
    try simp only [Act.put, List.setIfInBounds_toArray, List.set_cons_zero, List.set_cons_succ]
    refine takeW (i := 6) (d := some 73) (v := ?_) rfl rfl (by kernel_rfl) (by kernel_rfl) (by kernel_rfl) (fun _ _ _ h => h) (by rfl) ?_ (by assumption) ?_
    rotate_left
    · (intro w hSw; (try dsimp only at hSw); go_simp; try with_reducible rfl)
    try simp only [Act.put, List.setIfInBounds_toArray, List.set_cons_zero, List.set_cons_succ]
    refine takeW (i := 7) (d := some 74) (v := ?_) rfl rfl (by kernel_rfl) (by kernel_rfl) (by kernel_rfl) (fun _ _ _ h => h) (by rfl) ?_ (by assumption) ?_
    rotate_left
    · (intro w hSw; (try dsimp only at hSw); go_simp; try with_reducible rfl)
    try simp only [Act.put, List.setIfInBounds_toArray, List.set_cons_zero, List.set_cons_succ]
    refine takeW (i := 9) (d := some 76) (v := ?_) rfl rfl (by kernel_rfl) (by kernel_rfl) (by kernel_rfl) (fun _ _ _ h => h) (by rfl) ?_ (by assumption) ?_
    rotate_left
    · (intro w hSw; (try dsimp only at hSw); go_simp; try with_reducible rfl)
    try simp only [Act.put, List.setIfInBounds_toArray, List.set_cons_zero, List.set_cons_succ]
    refine takeW (i := 10) (d := some 77) (v := ?_) rfl rfl (by kernel_rfl) (by kernel_rfl) (by kernel_rfl) (fun _ _ _ h => h) (by rfl) ?_ (by assumption) ?_
    rotate_left
    · (intro w hSw; (try dsimp only at hSw); go_simp; try with_reducible rfl)
    try simp only [Act.put, List.setIfInBounds_toArray, List.set_cons_zero, List.set_cons_succ]
    refine takeW (i := 11) (d := some 78) (v := ?_) rfl rfl (by kernel_rfl) (by kernel_rfl) (by kernel_rfl) (fun _ _ _ h => h) (by rfl) ?_ (by assumption) ?_
    rotate_left
    · (intro w hSw; (try dsimp only at hSw); go_simp; try with_reducible rfl)
    try simp only [Act.put, List.setIfInBounds_toArray, List.set_cons_zero, List.set_cons_succ]
    refine takeW (i := 12) (d := some 79) (v := ?_) rfl rfl (by kernel_rfl) (by kernel_rfl) (by kernel_rfl) (fun _ _ _ h => h) (by rfl) ?_ (by assumption) ?_
    rotate_left
    · (intro w hSw; (try dsimp only at hSw); go_simp; try with_reducible rfl)
    try simp only [Act.put, List.setIfInBounds_toArray, List.set_cons_zero, List.set_cons_succ]
    refine wpAnyH_ready (rs := [8]) (by kernel_rfl) (by simp) ?_
    refine AllReadyH.cons rfl (fun K hK => ?_) AllReadyH.nil
    refine ite_intro (by rfl) ?_
    go_simp
    refine (CA.out _ S.out.ns).mono ?_
    rintro e w4 ⟨rfl, b1⟩
    have S := Lib.hid (S.out.below b1)
    clear b1
    refine hK.out _ _ ?_ (fun hHeld => ?_)
    · exact NSd.out S.out.ns
    clear hK K
    try simp only [Act.put, List.setIfInBounds_toArray, List.set_cons_zero, List.set_cons_succ]
    refine wpAnyH_ready (rs := [13]) (by kernel_rfl) (by simp) ?_
    refine AllReadyH.cons rfl (fun K hK => ?_) AllReadyH.nil
    refine ite_intro (by rfl) ?_
    go_simp
    refine (CB.out _ S.out.ns).mono ?_
    rintro e w4 ⟨rfl, b1⟩
    have S := Lib.hid (S.out.below b1)
    clear b1
    refine hK.out _ _ ?_ (fun hHeld => ?_)
    · exact NSd.out S.out.ns
    clear hK K
    try simp only [Act.put, List.setIfInBounds_toArray, List.set_cons_zero, List.set_cons_succ]
    refine takeW (i := 14) (d := some 81) (v := ?_) rfl rfl (by kernel_rfl) (by kernel_rfl) (by kernel_rfl) (fun _ _ _ h => h) (by rfl) ?_ (by assumption) ?_
    rotate_left
    · (intro w hSw; (try dsimp only at hSw); go_simp; try with_reducible rfl)
    try simp only [Act.put, List.setIfInBounds_toArray, List.set_cons_zero, List.set_cons_succ]
    refine takeW (i := 15) (d := some 82) (v := ?_) rfl rfl (by kernel_rfl) (by kernel_rfl) (by kernel_rfl) (fun _ _ _ h => h) (by rfl) ?_ (by assumption) ?_
    rotate_left
    · (intro w hSw; (try dsimp only at hSw); go_simp; try with_reducible rfl)
    try simp only [Act.put, List.setIfInBounds_toArray, List.set_cons_zero, List.set_cons_succ]
    refine wpAnyH_done (by kernel_rfl) ?_ _
    obtain ⟨t0, t1, t2, _⟩ := S.out.ns.out
    clear CA CB CP
    go_wp2_with fail
    go_loopw [11, 12] (fun u v wr => ∃ n : Nat, v = .int .i64 n ∧ (n : Int) ≤ p ∧ u = .int .i64 (runU H P n) ∧ AgS w (.slice A k c) (.slice A' k' c') b X nx cx l wr) (fun _ v _ => (p - intOf v).toNat)
    case atStart => exact ⟨0, rfl, by omega, by rw [runU_zero]; rfl, S.out⟩
    case round =>
      obtain ⟨n, rfl, n1, rfl, S3⟩ := hrel
      clear S t0 t1 t2
      have S := Lib.hid S3
      clear S3
      obtain ⟨t0, t1, t2, _⟩ := S.out.ns.out
      have hrun := runU_le H P n
      by_cases hlt : (n : Int) < p
      · obtain ⟨y, hy⟩ : ∃ y, H ((n : Int) + p) = y := ⟨_, rfl⟩
        have XN : IntKind.i64.wrap ((n : Int) + p) = (n : Int) + p := IntWalk.i64_in _ (by omega)
        have CA := Lib.hid fun W S => HA.out ((n : Int) + p) W (by omega) (by omega) S
        rw [hy] at CA
        cases y
        · skip
          have HU : Hid (runU H P (n + 1) = runU H P n) := Lib.hid (runU_no HPH.out (.inl (by rw [← HPP.out]; exact hy)))
          generalize runU H P n = R at *
          clear hy
          go_wp2_with fail
          refine (CA.out _ S.out.ns).mono ?_
          rintro e w6 ⟨rfl, h6⟩
          have S := Lib.hid (S.out.below h6)
          clear h6 t0 t1 t2 CA
          go_wp2_with fail
          go_roundw
          case rel => exact ⟨n + 1, by go_num, by omega, by rw [HU.out]; try go_num, S.out⟩
          case measure => show (p - ((n : Int) + 1)).toNat < (p - (n : Int)).toNat; omega
        · obtain ⟨z, hz⟩ : ∃ z, H ((n : Int) + p - 1) = z := ⟨_, rfl⟩
          have XO : IntKind.i64.wrap ((n : Int) + p - 1) = (n : Int) + p - 1 := IntWalk.i64_in _ (by omega)
          have CB := Lib.hid fun W S => HA.out ((n : Int) + p - 1) W (by omega) (by omega) S
          rw [hz] at CB
          cases z
          · skip
            have HU : Hid (runU H P (n + 1) = runU H P n + 1) := Lib.hid (runU_yes (by have := HPP.out; omega) HPH.out (by rw [← HPP.out]; exact hy) (by rw [← HPP.out]; exact hz))
            generalize runU H P n = R at *
            have XR : IntKind.i64.wrap ((R : Int) + 1) = (R : Int) + 1 := IntWalk.i64_in _ (by omega)
            clear hy hz
            go_wp2_with fail
            refine (CA.out _ S.out.ns).mono ?_
            rintro e w6 ⟨rfl, h6⟩
            have S := Lib.hid (S.out.below h6)
            clear h6 t0 t1 t2 CA
            obtain ⟨t0, t1, t2, _⟩ := S.out.ns.out
            go_wp2_with fail
            refine (CB.out _ S.out.ns).mono ?_
            rintro e w6 ⟨rfl, h6⟩
            have S := Lib.hid (S.out.below h6)
            clear h6 t0 t1 t2 CB
            go_wp2_with fail
            go_roundw
            case rel => exact ⟨n + 1, by go_num, by omega, by rw [HU.out]; try go_num, S.out⟩
            case measure => show (p - ((n : Int) + 1)).toNat < (p - (n : Int)).toNat; omega
          · skip
            have HU : Hid (runU H P (n + 1) = runU H P n) := Lib.hid (runU_no HPH.out (.inr (by rw [← HPP.out]; exact hz)))
            generalize runU H P n = R at *
            clear hy hz
            go_wp2_with fail
            refine (CA.out _ S.out.ns).mono ?_
            rintro e w6 ⟨rfl, h6⟩
            have S := Lib.hid (S.out.below h6)
            clear h6 t0 t1 t2 CA
            obtain ⟨t0, t1, t2, _⟩ := S.out.ns.out
            go_wp2_with fail
            refine (CB.out _ S.out.ns).mono ?_
            rintro e w6 ⟨rfl, h6⟩
            have S := Lib.hid (S.out.below h6)
            clear h6 t0 t1 t2 CB
            go_wp2_with fail
            go_roundw
            case rel => exact ⟨n + 1, by go_num, by omega, by rw [HU.out]; try go_num, S.out⟩
            case measure => show (p - ((n : Int) + 1)).toNat < (p - (n : Int)).toNat; omega
      · have hnn : n = P := by have := HPP.out; omega
        subst hnn
        obtain ⟨R, hR⟩ : ∃ R, runU H n n = R := ⟨_, rfl⟩
        rw [hR] at HD
        have G3 : (decide (24 < (R : Int))) = true := decide_eq_true (by have := HD.out; omega)
        rw [hR] at hrun ⊢
        clear hR HD
        go_wp2_with fail
        refine (HS.out _).mono ?_
        rintro e w7 ⟨rfl, h7⟩
        have S := Lib.hid (S.out.below h7)
        clear h7
        go_wp2_with fail
        go_ret
        exact ⟨by simp, S.out.bel⟩
end Go.Proofs.YtlhgpeelenelbaaDoor
