/- The walk of the law TurnAgain: where the fewest turns are there. -/
import Derived.Test.YtlhgpeelenelbaaDoorAG
namespace Go.Proofs.YtlhgpeelenelbaaDoor
open Go.RowKit

set_option maxHeartbeats 16000000 in
set_option maxRecDepth 100000 in
theorem again_main (hsan : ∀ W, Calls Tryd.prog 16 #[] W fun e w' => e = .returned (.bool true) ∧ Below W.heap.size W w') (A A' : Option Addr) (k c k' c' : Nat) (sm p : Int) (P : Nat) (H : Int → Bool) (l : List T3) (w : World) (s0 : 0 ≤ sm) (s1 : sm ≤ 65535) (p0 : 1 ≤ p) (p1 : p ≤ 40320) (hpP : p = P) (hP : PerH H P) (hr : (l.length : Int) = max 1 (runU H P P : Int)) (ho : ∀ i x, l[i]? = some x → x.1 = p ∧ (0 < i → ∃ y, l[i - 1]? = some y ∧ y.2.1 < x.2.1))
    (F1 : Hid (∀ W, Calls Tryd.prog 15 #[.agg #[.slice A k c, .slice A' k' c']] W fun e w' => e = .returned (.bool true) ∧ Below W.heap.size W w'))
    (C0 : Hid (∀ W, NSd w (.slice A k c) (.slice A' k' c') W → Calls Tryd.prog 45 #[.agg #[.slice A k c, .slice A' k' c'], .int .i64 2520] W (SoonPost W)))
    (C1 : Hid (∀ W, NSd w (.slice A k c) (.slice A' k' c') W → Calls Tryd.prog 46 #[.agg #[.slice A k c, .slice A' k' c']] W fun e w' => e = .returned (.tuple #[.int .i64 p, .int .i64 0]) ∧ Below W.heap.size W w'))
    (C3 : Hid (∀ W, NSd w (.slice A k c) (.slice A' k' c') W → Calls Tryd.prog 48 #[.agg #[.slice A k c, .slice A' k' c']] W fun e w' => ∃ X nx cx, e = .returned (.tuple #[.agg #[.slice X nx cx, .slice none 0 0], .int .i64 0]) ∧ RT w'.heap.size (.slice X nx cx) l w' ∧ Below W.heap.size W w'))
    (CM : Hid (∀ d W, 1 ≤ d → d < p → p % d = 0 → NSd w (.slice A k c) (.slice A' k' c') W → Calls Tryd.prog 64 #[.agg #[.slice A k c, .slice A' k' c'], .int .i64 d, .int .i64 p] W fun e w' => e = .returned (.bool false) ∧ Below W.heap.size W w'))
    (CP : Hid (∀ W, NSd w (.slice A k c) (.slice A' k' c') W → Calls Tryd.prog 64 #[.agg #[.slice A k c, .slice A' k' c'], .int .i64 p, .int .i64 p] W fun e w' => e = .returned (.bool true) ∧ Below W.heap.size W w'))
    (HA : Hid (∀ n W, 0 ≤ n → n ≤ 1000000 → NSd w (.slice A k c) (.slice A' k' c') W → Calls Tryd.prog 55 #[.agg #[.slice A k c, .slice A' k' c'], .int .i64 n] W fun e w' => e = .returned (.bool (H n)) ∧ Below W.heap.size W w'))
    (C5 : Hid (∀ X nx cx W, RT W.heap.size (.slice X nx cx) l W → Calls Tryd.prog 46 #[.agg #[.slice X nx cx, .slice none 0 0]] W fun e w' => e = .returned (.tuple #[.int .i64 p, .int .i64 0]) ∧ Below W.heap.size W w'))
    (HF : Hid (∀ n X nx cx W, 0 ≤ n → n ≤ 1000000 → RT W.heap.size (.slice X nx cx) l W → Calls Tryd.prog 55 #[.agg #[.slice X nx cx, .slice none 0 0], .int .i64 n] W fun e w' => e = .returned (.bool (H n)) ∧ Below W.heap.size W w')) :
    Calls Tryd.prog 13 #[.agg #[.slice A k c, .slice A' k' c'], .int .u16 sm] w fun e w' => e = .returned (.bool true) ∧ Below w.heap.size w w' := by
  have HS := Lib.hid hsan
  have S0 := Lib.hid (NSd.new (w := w) (v0 := .slice A k c) (v1 := .slice A' k' c') 25)
  have HPP := Lib.hid hpP
  have HPH := Lib.hid hP
  have HR := Lib.hid hr
  have HO := Lib.hid ho
  have G1 : (decide (p < 1)) = false := decide_eq_false (by omega)
  have G2 : (decide (40320 < p)) = false := decide_eq_false (by omega)
  have XB : IntKind.i64.wrap sm = sm := IntWalk.i64_in _ (by omega)
  clear hsan hpP hP hr ho
  go_enter Tryd.func13, Tryd.ntmps13
  go_wp2_with fail
  refine (F1.out _).mono ?_
  rintro e w1 ⟨rfl, h1⟩
  have S := Lib.hid (S0.out.below h1)
  clear h1 S0 F1
  obtain ⟨t0, t1, t2, _⟩ := S.out.out
  go_wp2_with fail
  refine (C0.out _ S.out).mono ?_
  rintro e w2 ⟨⟨b, rfl⟩, h2⟩
  have S := Lib.hid (S.out.below h2)
  clear h2 t0 t1 t2 C0
  cases b
  · go_wp2_with fail
    refine (HS.out _).mono ?_
    rintro e w3 ⟨rfl, h3⟩
    have S := Lib.hid (S.out.below h3)
    clear h3
    go_wp2_with fail
    go_ret
    exact ⟨rfl, S.out.bel⟩
  obtain ⟨t0, t1, t2, _⟩ := S.out.out
  go_wp2_with fail
  refine (C1.out _ S.out).mono ?_
  rintro e w3 ⟨rfl, h3⟩
  have S := Lib.hid (S.out.below h3)
  clear h3 t0 t1 t2 C1
  obtain ⟨t0, t1, t2, _⟩ := S.out.out
  go_wp2_with fail
  refine (C3.out _ S.out).mono ?_
  rintro e w5 ⟨X, nx, cx, rfl, r1, h5⟩
  obtain ⟨A1, c1, ee, _, _⟩ := id r1
  obtain rfl : nx = l.length := (Value.slice.inj ee).2.1
  clear ee
  have ba := (Below.refl w5.heap.size w5).alloc (Nat.le_refl _) (.cells #[.slice X l.length cx, .slice none 0 0] 25)
  have S : Hid (AgS w (.slice A k c) (.slice A' k' c') w5.heap.size X l.length cx l (w5.alloc (.cells #[.slice X l.length cx, .slice none 0 0] 25))) := Lib.hid ⟨(S.out.below h5).below ba, Two.new (W := w5) (x := .slice X l.length cx) (y := .slice none 0 0) 25, r1.later ba⟩
  clear h5 r1 ba t0 t1 t2 C3
  go_wp2_with fail
  generalize w5.heap.size = b at *
  go_loopw [9] (fun u wr => ∃ d : Int, u = .int .i64 d ∧ 1 ≤ d ∧ d ≤ p ∧ AgS w (.slice A k c) (.slice A' k' c') b X l.length cx l wr) (fun u _ => (p - intOf u).toNat)
  case atStart => exact ⟨1, rfl, by omega, p0, S.out⟩
  case round =>
    obtain ⟨d, rfl, d0, d1, S3⟩ := hrel
    clear S
    have S := Lib.hid S3
    clear S3
    obtain ⟨t0, t1, t2, _⟩ := S.out.ns.out
    by_cases hlt : d < p
    · have XA : ¬ d = 0 := by omega
      have XE : (d == 0) = false := beq_eq_false_iff_ne.2 (by omega)
      have XC : p.tmod d = p % d := Int.tmod_eq_emod_of_nonneg (by omega)
      have XD : 0 ≤ p % d := Int.emod_nonneg _ (by omega)
      have XF : p % d < d := Int.emod_lt_of_pos _ (by omega)
      have XG : IntKind.i64.wrap (p % d) = p % d := IntWalk.i64_in _ (by omega)
      by_cases hm : p % d = 0
      · have XH : (p % d == 0) = true := beq_iff_eq.2 hm
        have CC := Lib.hid fun W S => CM.out d W d0 hlt hm S
        clear hm XD XF
        go_wp2_with fail
        refine (CC.out _ S.out.ns).mono ?_
        rintro e w6 ⟨rfl, h6⟩
        have S := Lib.hid (S.out.below h6)
        clear h6 t0 t1 t2 CC
        go_wp2_with fail
        go_roundw
        case rel => exact ⟨d + 1, rfl, by omega, by omega, S.out⟩
        case measure => show (p - (d + 1)).toNat < (p - d).toNat; omega
      · have XH : (p % d == 0) = false := beq_eq_false_iff_ne.2 hm
        clear hm XD XF
        go_wp2_with fail
        go_roundw
        case rel => exact ⟨d + 1, rfl, by omega, by omega, S.out⟩
        case measure => show (p - (d + 1)).toNat < (p - d).toNat; omega
    clear CM
    go_wp2_with fail
    obtain ⟨x, hx⟩ : ∃ x, H sm = x := ⟨_, rfl⟩
    have CA := Lib.hid fun W S => HA.out sm W s0 (by omega) S
    rw [hx] at CA
    have CB := Lib.hid fun W S => HA.out (sm + p) W (by omega) (by omega) S
    rw [show H (sm + p) = x by rw [HPP.out, HPH.out, hx]] at CB
    have HX := Lib.hid hx
    have XM : IntKind.i64.wrap (sm + p) = sm + p := IntWalk.i64_in _ (by omega)
    clear hx
    have S := Lib.hid (S.out.drew)
    clear t0 t1 t2
    refine wp_region_held_drew (S := NS w (.slice A k c) (.slice A' k' c')) (by kernel_rfl) ?_ (fun hHeld => ?_)
    · exact NSd.out S.out.ns
    refine takeW (i := 0) (d := some 67) (v := ?_) rfl rfl (by kernel_rfl) (by kernel_rfl) (by kernel_rfl) (fun _ _ _ h => h) (by rfl) ?_ (by assumption) ?_
    rotate_left
    · (intro w hSw; (try dsimp only at hSw); go_simp; try with_reducible rfl)
    try simp only [Act.put, List.setIfInBounds_toArray, List.set_cons_zero, List.set_cons_succ]
    refine takeW (i := 1) (d := some 68) (v := ?_) rfl rfl (by kernel_rfl) (by kernel_rfl) (by kernel_rfl) (fun _ _ _ h => h) (by rfl) ?_ (by assumption) ?_
    rotate_left
    · (intro w hSw; (try dsimp only at hSw); go_simp; try with_reducible rfl)
    try simp only [Act.put, List.setIfInBounds_toArray, List.set_cons_zero, List.set_cons_succ]
    refine takeW (i := 2) (d := some 69) (v := ?_) rfl rfl (by kernel_rfl) (by kernel_rfl) (by kernel_rfl) (fun _ _ _ h => h) (by rfl) ?_ (by assumption) ?_
    rotate_left
    · (intro w hSw; (try dsimp only at hSw); go_simp; try with_reducible rfl)
    try simp only [Act.put, List.setIfInBounds_toArray, List.set_cons_zero, List.set_cons_succ]
    refine wpAnyH_ready (rs := [3]) (by kernel_rfl) (by simp) ?_
    refine AllReadyH.cons rfl (fun K hK => ?_) AllReadyH.nil
    go_simp
    refine (CP.out _ S.out.ns).mono ?_
    rintro e w4 ⟨rfl, b1⟩
    have S := Lib.hid (S.out.below b1)
    clear b1
    refine hK.out _ _ ?_ (fun hHeld => ?_)
    · exact NSd.out S.out.ns
    clear hK K
    try simp only [Act.put, List.setIfInBounds_toArray, List.set_cons_zero, List.set_cons_succ]
    refine takeW (i := 4) (d := some 71) (v := ?_) rfl rfl (by kernel_rfl) (by kernel_rfl) (by kernel_rfl) (fun _ _ _ h => h) (by rfl) ?_ (by assumption) ?_
    rotate_left
    · (intro w hSw; (try dsimp only at hSw); go_simp; try with_reducible rfl)
    try simp only [Act.put, List.setIfInBounds_toArray, List.set_cons_zero, List.set_cons_succ]
    refine takeW (i := 5) (d := some 72) (v := ?_) rfl rfl (by kernel_rfl) (by kernel_rfl) (by kernel_rfl) (fun _ _ _ h => h) (by rfl) ?_ (by assumption) ?_
    rotate_left
    · (intro w hSw; (try dsimp only at hSw); go_simp; try with_reducible rfl)
    try simp only [Act.put, List.setIfInBounds_toArray, List.set_cons_zero, List.set_cons_succ]
    refine takeW (i := 6) (d := some 73) (v := ?_) rfl rfl (by kernel_rfl) (by kernel_rfl) (by kernel_rfl) (fun _ _ _ h => h) (by rfl) ?_ (by assumption) ?_
    rotate_left
    · (intro w hSw; (try dsimp only at hSw); go_simp; try with_reducible rfl)
    try simp only [Act.put, List.setIfInBounds_toArray, List.set_cons_zero, List.set_cons_succ]
    refine takeW (i := 7) (d := some 74) (v := ?_) rfl rfl (by kernel_rfl) (by kernel_rfl) (by kernel_rfl) (fun _ _ _ h => h) (by rfl) ?_ (by assumption) ?_
    rotate_left
    · (intro w hSw; (try dsimp only at hSw); go_simp; try with_reducible rfl)
    try simp only [Act.put, List.setIfInBounds_toArray, List.set_cons_zero, List.set_cons_succ]
    refine takeW (i := 9) (d := some 76) (v := ?_) rfl rfl (by kernel_rfl) (by kernel_rfl) (by kernel_rfl) (fun _ _ _ h => h) (by rfl) ?_ (by assumption) ?_
    rotate_left
    · (intro w hSw; (try dsimp only at hSw); go_simp; try with_reducible rfl)
    try simp only [Act.put, List.setIfInBounds_toArray, List.set_cons_zero, List.set_cons_succ]
    refine takeW (i := 10) (d := some 77) (v := ?_) rfl rfl (by kernel_rfl) (by kernel_rfl) (by kernel_rfl) (fun _ _ _ h => h) (by rfl) ?_ (by assumption) ?_
    rotate_left
    · (intro w hSw; (try dsimp only at hSw); go_simp; try with_reducible rfl)
    try simp only [Act.put, List.setIfInBounds_toArray, List.set_cons_zero, List.set_cons_succ]
    refine takeW (i := 11) (d := some 78) (v := ?_) rfl rfl (by kernel_rfl) (by kernel_rfl) (by kernel_rfl) (fun _ _ _ h => h) (by rfl) ?_ (by assumption) ?_
    rotate_left
    · (intro w hSw; (try dsimp only at hSw); go_simp; try with_reducible rfl)
    try simp only [Act.put, List.setIfInBounds_toArray, List.set_cons_zero, List.set_cons_succ]
    refine takeW (i := 12) (d := some 79) (v := ?_) rfl rfl (by kernel_rfl) (by kernel_rfl) (by kernel_rfl) (fun _ _ _ h => h) (by rfl) ?_ (by assumption) ?_
    rotate_left
    · (intro w hSw; (try dsimp only at hSw); go_simp; try with_reducible rfl)
    try simp only [Act.put, List.setIfInBounds_toArray, List.set_cons_zero, List.set_cons_succ]
    refine wpAnyH_ready (rs := [8]) (by kernel_rfl) (by simp) ?_
    refine AllReadyH.cons rfl (fun K hK => ?_) AllReadyH.nil
    refine ite_intro (by rfl) ?_
    go_simp
    refine (CA.out _ S.out.ns).mono ?_
    rintro e w4 ⟨rfl, b1⟩
    have S := Lib.hid (S.out.below b1)
    clear b1
    refine hK.out _ _ ?_ (fun hHeld => ?_)
    · exact NSd.out S.out.ns
    clear hK K
    try simp only [Act.put, List.setIfInBounds_toArray, List.set_cons_zero, List.set_cons_succ]
    refine wpAnyH_ready (rs := [13]) (by kernel_rfl) (by simp) ?_
    refine AllReadyH.cons rfl (fun K hK => ?_) AllReadyH.nil
    refine ite_intro (by rfl) ?_
    go_simp
    refine (CB.out _ S.out.ns).mono ?_
    rintro e w4 ⟨rfl, b1⟩
    have S := Lib.hid (S.out.below b1)
    clear b1
    refine hK.out _ _ ?_ (fun hHeld => ?_)
    · exact NSd.out S.out.ns
    clear hK K
    try simp only [Act.put, List.setIfInBounds_toArray, List.set_cons_zero, List.set_cons_succ]
    refine takeW (i := 14) (d := some 81) (v := ?_) rfl rfl (by kernel_rfl) (by kernel_rfl) (by kernel_rfl) (fun _ _ _ h => h) (by rfl) ?_ (by assumption) ?_
    rotate_left
    · (intro w hSw; (try dsimp only at hSw); go_simp; try with_reducible rfl)
    try simp only [Act.put, List.setIfInBounds_toArray, List.set_cons_zero, List.set_cons_succ]
    refine takeW (i := 15) (d := some 82) (v := ?_) rfl rfl (by kernel_rfl) (by kernel_rfl) (by kernel_rfl) (fun _ _ _ h => h) (by rfl) ?_ (by assumption) ?_
    rotate_left
    · (intro w hSw; (try dsimp only at hSw); go_simp; try with_reducible rfl)
    try simp only [Act.put, List.setIfInBounds_toArray, List.set_cons_zero, List.set_cons_succ]
    refine wpAnyH_done (by kernel_rfl) ?_ _
    obtain ⟨t0, t1, t2, _⟩ := S.out.ns.out
    clear CA CB CP
    go_wp2_with fail
    go_loopw [11, 12] (fun u v wr => ∃ n : Nat, v = .int .i64 n ∧ (n : Int) ≤ p ∧ u = .int .i64 (runU H P n) ∧ AgS w (.slice A k c) (.slice A' k' c') b X l.length cx l wr) (fun _ v _ => (p - intOf v).toNat)
    case atStart => exact ⟨0, rfl, by omega, by rw [runU_zero]; rfl, S.out⟩
    case round =>
      obtain ⟨n, rfl, n1, rfl, S3⟩ := hrel
      clear S t0 t1 t2
      have S := Lib.hid S3
      clear S3
      obtain ⟨t0, t1, t2, _⟩ := S.out.ns.out
      have hrun := runU_le H P n
      by_cases hlt : (n : Int) < p
      · obtain ⟨y, hy⟩ : ∃ y, H ((n : Int) + p) = y := ⟨_, rfl⟩
        have XN : IntKind.i64.wrap ((n : Int) + p) = (n : Int) + p := IntWalk.i64_in _ (by omega)
        have CA := Lib.hid fun W S => HA.out ((n : Int) + p) W (by omega) (by omega) S
        rw [hy] at CA
        cases y
        · skip
          have HU : Hid (runU H P (n + 1) = runU H P n) := Lib.hid (runU_no HPH.out (.inl (by rw [← HPP.out]; exact hy)))
          generalize runU H P n = R at *
          clear hy
          go_wp2_with fail
          refine (CA.out _ S.out.ns).mono ?_
          rintro e w6 ⟨rfl, h6⟩
          have S := Lib.hid (S.out.below h6)
          clear h6 t0 t1 t2 CA
          go_wp2_with fail
          go_roundw
          case rel => exact ⟨n + 1, by go_num, by omega, by rw [HU.out]; try go_num, S.out⟩
          case measure => show (p - ((n : Int) + 1)).toNat < (p - (n : Int)).toNat; omega
        · obtain ⟨z, hz⟩ : ∃ z, H ((n : Int) + p - 1) = z := ⟨_, rfl⟩
          have XO : IntKind.i64.wrap ((n : Int) + p - 1) = (n : Int) + p - 1 := IntWalk.i64_in _ (by omega)
          have CB := Lib.hid fun W S => HA.out ((n : Int) + p - 1) W (by omega) (by omega) S
          rw [hz] at CB
          cases z
          · skip
            have HU : Hid (runU H P (n + 1) = runU H P n + 1) := Lib.hid (runU_yes (by have := HPP.out; omega) HPH.out (by rw [← HPP.out]; exact hy) (by rw [← HPP.out]; exact hz))
            generalize runU H P n = R at *
            have XR : IntKind.i64.wrap ((R : Int) + 1) = (R : Int) + 1 := IntWalk.i64_in _ (by omega)
            clear hy hz
            go_wp2_with fail
            refine (CA.out _ S.out.ns).mono ?_
            rintro e w6 ⟨rfl, h6⟩
            have S := Lib.hid (S.out.below h6)
            clear h6 t0 t1 t2 CA
            obtain ⟨t0, t1, t2, _⟩ := S.out.ns.out
            go_wp2_with fail
            refine (CB.out _ S.out.ns).mono ?_
            rintro e w6 ⟨rfl, h6⟩
            have S := Lib.hid (S.out.below h6)
            clear h6 t0 t1 t2 CB
            go_wp2_with fail
            go_roundw
            case rel => exact ⟨n + 1, by go_num, by omega, by rw [HU.out]; try go_num, S.out⟩
            case measure => show (p - ((n : Int) + 1)).toNat < (p - (n : Int)).toNat; omega
          · skip
            have HU : Hid (runU H P (n + 1) = runU H P n) := Lib.hid (runU_no HPH.out (.inr (by rw [← HPP.out]; exact hz)))
            generalize runU H P n = R at *
            clear hy hz
            go_wp2_with fail
            refine (CA.out _ S.out.ns).mono ?_
            rintro e w6 ⟨rfl, h6⟩
            have S := Lib.hid (S.out.below h6)
            clear h6 t0 t1 t2 CA
            obtain ⟨t0, t1, t2, _⟩ := S.out.ns.out
            go_wp2_with fail
            refine (CB.out _ S.out.ns).mono ?_
            rintro e w6 ⟨rfl, h6⟩
            have S := Lib.hid (S.out.below h6)
            clear h6 t0 t1 t2 CB
            go_wp2_with fail
            go_roundw
            case rel => exact ⟨n + 1, by go_num, by omega, by rw [HU.out]; try go_num, S.out⟩
            case measure => show (p - ((n : Int) + 1)).toNat < (p - (n : Int)).toNat; omega
      · have hnn : n = P := by have := HPP.out; omega
        subst hnn
        obtain ⟨R, hR⟩ : ∃ R, runU H n n = R := ⟨_, rfl⟩
        rw [hR] at HR hrun ⊢
        clear hR
        obtain ⟨e0, e1⟩ := S.out.two
        go_wp2_with fail
        go_loopw [118] (fun u wr => ∃ i : Nat, u = .int .i64 i ∧ i ≤ l.length ∧ AgS w (.slice A k c) (.slice A' k' c') b X l.length cx l wr) (fun u _ => l.length - (intOf u).toNat)
        case atStart => exact ⟨0, rfl, by omega, S.out⟩
        case round =>
          obtain ⟨i, rfl, i1, S3⟩ := hrel
          clear S t0 t1 t2 e0 e1
          have S := Lib.hid S3
          clear S3
          obtain ⟨t0, t1, t2, _⟩ := S.out.ns.out
          obtain ⟨e0, e1⟩ := S.out.two
          by_cases hin : i < l.length
          · obtain ⟨A1, c1, ee, n1, hx⟩ := S.out.rt
            obtain ⟨rfl, rfl⟩ : X = A1 ∧ cx = c1 := ⟨(Value.slice.inj ee).1, (Value.slice.inj ee).2.2⟩
            have hnn1 := n1
            obtain ⟨bt, ot, rfl, hbt, hcs⟩ := hx (by omega)
            obtain ⟨⟨tp, tf, tl⟩, ht⟩ : ∃ t, l[i]? = some t := ⟨_, List.getElem?_eq_getElem (by omega)⟩
            obtain ⟨c0, c2, c3⟩ := hcs i tp tf tl ht
            obtain ⟨htp, hord⟩ := HO.out i _ ht
            simp only at htp hord
            have htq := htp.symm
            clear htp
            subst htq
            have hi0 : (i : Int) < (l.length : Int) := by omega
            clear ee n1 hx ht
            have ba := (Below.refl wr.heap.size wr).alloc (Nat.le_refl _) (.cells #[.int .i64 p, .int .i64 tf, .int .i64 tl] 27)
            have T := Lib.hid (Tri.new (W := wr) (x := .int .i64 p) (y := .int .i64 tf) (z := .int .i64 tl) 27)
            rcases i with _ | j
            · simp only [Nat.zero_mul, Nat.add_zero] at c0 c2 c3
              go_wp2_with fail
              clear t0 t1 t2 e0 e1 c0 c2 c3
              have S := Lib.hid (S.out.below ba)
              obtain ⟨t0, t1, t2, _⟩ := S.out.ns.out
              obtain ⟨f0, f1, f2, _⟩ := T.out.out
              obtain ⟨e0, e1⟩ := S.out.two
              have S := Lib.hid (S.out.drew)
              clear t0 t1 t2
              refine wp_region_held_drew (S := fun W => W.cell? ⟨wr.heap.size, 0, none⟩ = some (.int .i64 p) ∧ W.cell? ⟨wr.heap.size, 1, none⟩ = some (.int .i64 tf) ∧ W.cell? ⟨b, 0, none⟩ = some (.slice (some ⟨bt, ot, none⟩) l.length cx)) (by kernel_rfl) ?_ (fun hHeld => ?_)
              · exact ⟨f0, f1, e0⟩
              refine takeW (i := 0) (d := some 123) (v := ?_) rfl rfl (by kernel_rfl) (by kernel_rfl) (by kernel_rfl) (fun _ _ _ h => h) (by rfl) ?_ (by assumption) ?_
              rotate_left
              · (intro w hSw; (try dsimp only at hSw); go_simp; try with_reducible rfl)
              try simp only [Act.put, List.setIfInBounds_toArray, List.set_cons_zero, List.set_cons_succ]
              refine takeW (i := 1) (d := some 124) (v := ?_) rfl rfl (by kernel_rfl) (by kernel_rfl) (by kernel_rfl) (fun _ _ _ h => h) (by rfl) ?_ (by assumption) ?_
              rotate_left
              · (intro w hSw; (try dsimp only at hSw); go_simp; try with_reducible rfl)
              try simp only [Act.put, List.setIfInBounds_toArray, List.set_cons_zero, List.set_cons_succ]
              refine takeW (i := 2) (d := some 125) (v := ?_) rfl rfl (by kernel_rfl) (by kernel_rfl) (by kernel_rfl) (fun _ _ _ h => h) (by rfl) ?_ (by assumption) ?_
              rotate_left
              · (intro w hSw; (try dsimp only at hSw); go_simp; try with_reducible rfl)
              try simp only [Act.put, List.setIfInBounds_toArray, List.set_cons_zero, List.set_cons_succ]
              refine takeW (i := 3) (d := some 126) (v := ?_) rfl rfl (by kernel_rfl) (by kernel_rfl) (by kernel_rfl) (fun _ _ _ h => h) (by rfl) ?_ (by assumption) ?_
              rotate_left
              · (intro w hSw; (try dsimp only at hSw); go_simp; try with_reducible rfl)
              try simp only [Act.put, List.setIfInBounds_toArray, List.set_cons_zero, List.set_cons_succ]
              refine takeW (i := 4) (d := some 127) (v := ?_) rfl rfl (by kernel_rfl) (by kernel_rfl) (by kernel_rfl) (fun _ _ _ h => h) (by rfl) ?_ (by assumption) ?_
              rotate_left
              · (intro w hSw; (try dsimp only at hSw); go_simp; try with_reducible rfl)
              try simp only [Act.put, List.setIfInBounds_toArray, List.set_cons_zero, List.set_cons_succ]
              refine takeW (i := 5) (d := some 128) (v := ?_) rfl rfl (by kernel_rfl) (by kernel_rfl) (by kernel_rfl) (fun _ _ _ h => h) (by rfl) ?_ (by assumption) ?_
              rotate_left
              · (intro w hSw; (try dsimp only at hSw); go_simp; try with_reducible rfl)
              try simp only [Act.put, List.setIfInBounds_toArray, List.set_cons_zero, List.set_cons_succ]
              refine takeW (i := 6) (d := some 129) (v := ?_) rfl rfl (by kernel_rfl) (by kernel_rfl) (by kernel_rfl) (fun _ _ _ h => h) (by rfl) ?_ (by assumption) ?_
              rotate_left
              · (intro w hSw; (try dsimp only at hSw); go_simp; try with_reducible rfl)
              try simp only [Act.put, List.setIfInBounds_toArray, List.set_cons_zero, List.set_cons_succ]
              refine takeW (i := 7) (d := some 130) (v := ?_) rfl rfl (by kernel_rfl) (by kernel_rfl) (by kernel_rfl) (fun _ _ _ h => h) (by rfl) ?_ (by assumption) ?_
              rotate_left
              · (intro w hSw; (try dsimp only at hSw); go_simp; try with_reducible rfl)
              try simp only [Act.put, List.setIfInBounds_toArray, List.set_cons_zero, List.set_cons_succ]
              refine skipW (i := 8) (d := some 131) rfl rfl (by kernel_rfl) (by kernel_rfl) (by kernel_rfl) (fun _ _ _ h => h) (by rfl) (by assumption) ?_
              try simp only [Act.put, List.setIfInBounds_toArray, List.set_cons_zero, List.set_cons_succ]
              refine skipW (i := 9) (d := some 132) rfl rfl (by kernel_rfl) (by kernel_rfl) (by kernel_rfl) (fun _ _ _ h => h) (by rfl) (by assumption) ?_
              try simp only [Act.put, List.setIfInBounds_toArray, List.set_cons_zero, List.set_cons_succ]
              refine skipW (i := 10) (d := some 133) rfl rfl (by kernel_rfl) (by kernel_rfl) (by kernel_rfl) (fun _ _ _ h => h) (by rfl) (by assumption) ?_
              try simp only [Act.put, List.setIfInBounds_toArray, List.set_cons_zero, List.set_cons_succ]
              refine skipW (i := 11) (d := some 134) rfl rfl (by kernel_rfl) (by kernel_rfl) (by kernel_rfl) (fun _ _ _ h => h) (by rfl) (by assumption) ?_
              try simp only [Act.put, List.setIfInBounds_toArray, List.set_cons_zero, List.set_cons_succ]
              refine skipW (i := 12) (d := some 135) rfl rfl (by kernel_rfl) (by kernel_rfl) (by kernel_rfl) (fun _ _ _ h => h) (by rfl) (by assumption) ?_
              try simp only [Act.put, List.setIfInBounds_toArray, List.set_cons_zero, List.set_cons_succ]
              refine skipW (i := 13) (d := some 136) rfl rfl (by kernel_rfl) (by kernel_rfl) (by kernel_rfl) (fun _ _ _ h => h) (by rfl) (by assumption) ?_
              try simp only [Act.put, List.setIfInBounds_toArray, List.set_cons_zero, List.set_cons_succ]
              refine skipW (i := 14) (d := some 137) rfl rfl (by kernel_rfl) (by kernel_rfl) (by kernel_rfl) (fun _ _ _ h => h) (by rfl) (by assumption) ?_
              try simp only [Act.put, List.setIfInBounds_toArray, List.set_cons_zero, List.set_cons_succ]
              refine skipW (i := 15) (d := some 138) rfl rfl (by kernel_rfl) (by kernel_rfl) (by kernel_rfl) (fun _ _ _ h => h) (by rfl) (by assumption) ?_
              try simp only [Act.put, List.setIfInBounds_toArray, List.set_cons_zero, List.set_cons_succ]
              refine skipW (i := 16) (d := some 139) rfl rfl (by kernel_rfl) (by kernel_rfl) (by kernel_rfl) (fun _ _ _ h => h) (by rfl) (by assumption) ?_
              try simp only [Act.put, List.setIfInBounds_toArray, List.set_cons_zero, List.set_cons_succ]
              refine skipW (i := 17) (d := some 140) rfl rfl (by kernel_rfl) (by kernel_rfl) (by kernel_rfl) (fun _ _ _ h => h) (by rfl) (by assumption) ?_
              try simp only [Act.put, List.setIfInBounds_toArray, List.set_cons_zero, List.set_cons_succ]
              refine takeW (i := 18) (d := some 141) (v := ?_) rfl rfl (by kernel_rfl) (by kernel_rfl) (by kernel_rfl) (fun _ _ _ h => h) (by rfl) ?_ (by assumption) ?_
              rotate_left
              · (intro w hSw; (try dsimp only at hSw); go_simp; try with_reducible rfl)
              try simp only [Act.put, List.setIfInBounds_toArray, List.set_cons_zero, List.set_cons_succ]
              refine takeW (i := 19) (d := some 142) (v := ?_) rfl rfl (by kernel_rfl) (by kernel_rfl) (by kernel_rfl) (fun _ _ _ h => h) (by rfl) ?_ (by assumption) ?_
              rotate_left
              · (intro w hSw; (try dsimp only at hSw); go_simp; try with_reducible rfl)
              try simp only [Act.put, List.setIfInBounds_toArray, List.set_cons_zero, List.set_cons_succ]
              refine wpAnyH_done (by kernel_rfl) ?_ _
              obtain ⟨t0, t1, t2, _⟩ := S.out.ns.out
              go_wp2_with fail
              go_roundw
              case rel => exact ⟨1, rfl, by omega, S.out⟩
              case measure => show l.length - ((0 : Int) + 1).toNat < l.length - ((0 : Nat) : Int).toNat; omega
            · obtain ⟨⟨yp, yf, yl⟩, hy, hlt⟩ := hord (by omega)
              rw [show j + 1 - 1 = j by omega] at hy
              simp only at hlt
              have cy := (hcs j yp yf yl hy).2.1
              have cz := (ba.cell (p := ⟨bt, ot + j * 3 + 1, none⟩) hbt).trans cy
              have G7 : (decide (tf ≤ yf)) = false := decide_eq_false (by omega)
              have G6 : (decide ((0 : Int) < (j : Int) + 1)) = true := decide_eq_true (by omega)
              have XJ : IntKind.i64.wrap ((j : Int) + 1 - 1) = (j : Int) := by rw [show (j : Int) + 1 - 1 = j by omega]; exact IntWalk.i64_in _ (by omega)
              have XW : IntKind.i64.wrap (j : Int) = (j : Int) := IntWalk.i64_in _ (by omega)
              have XK : (j : Int) + 1 - 1 = (j : Int) := by omega
              have hj0 : (j : Int) < (l.length : Int) := by omega
              clear hy cy hcs
              go_wp2_with fail
              clear t0 t1 t2 e0 e1 c0 c2 c3
              have S := Lib.hid (S.out.below ba)
              obtain ⟨t0, t1, t2, _⟩ := S.out.ns.out
              obtain ⟨f0, f1, f2, _⟩ := T.out.out
              obtain ⟨e0, e1⟩ := S.out.two
              have S := Lib.hid (S.out.drew)
              clear t0 t1 t2
              refine wp_region_held_drew (S := fun W => W.cell? ⟨wr.heap.size, 0, none⟩ = some (.int .i64 p) ∧ W.cell? ⟨wr.heap.size, 1, none⟩ = some (.int .i64 tf) ∧ W.cell? ⟨b, 0, none⟩ = some (.slice (some ⟨bt, ot, none⟩) l.length cx) ∧ W.cell? ⟨bt, ot + j * 3 + 1, none⟩ = some (.int .i64 yf)) (by kernel_rfl) ?_ (fun hHeld => ?_)
              · exact ⟨f0, f1, e0, cz⟩
              refine takeW (i := 0) (d := some 123) (v := ?_) rfl rfl (by kernel_rfl) (by kernel_rfl) (by kernel_rfl) (fun _ _ _ h => h) (by rfl) ?_ (by assumption) ?_
              rotate_left
              · (intro w hSw; (try dsimp only at hSw); go_simp; try with_reducible rfl)
              try simp only [Act.put, List.setIfInBounds_toArray, List.set_cons_zero, List.set_cons_succ]
              refine takeW (i := 1) (d := some 124) (v := ?_) rfl rfl (by kernel_rfl) (by kernel_rfl) (by kernel_rfl) (fun _ _ _ h => h) (by rfl) ?_ (by assumption) ?_
              rotate_left
              · (intro w hSw; (try dsimp only at hSw); go_simp; try with_reducible rfl)
              try simp only [Act.put, List.setIfInBounds_toArray, List.set_cons_zero, List.set_cons_succ]
              refine takeW (i := 2) (d := some 125) (v := ?_) rfl rfl (by kernel_rfl) (by kernel_rfl) (by kernel_rfl) (fun _ _ _ h => h) (by rfl) ?_ (by assumption) ?_
              rotate_left
              · (intro w hSw; (try dsimp only at hSw); go_simp; try with_reducible rfl)
              try simp only [Act.put, List.setIfInBounds_toArray, List.set_cons_zero, List.set_cons_succ]
              refine takeW (i := 3) (d := some 126) (v := ?_) rfl rfl (by kernel_rfl) (by kernel_rfl) (by kernel_rfl) (fun _ _ _ h => h) (by rfl) ?_ (by assumption) ?_
              rotate_left
              · (intro w hSw; (try dsimp only at hSw); go_simp; try with_reducible rfl)
              try simp only [Act.put, List.setIfInBounds_toArray, List.set_cons_zero, List.set_cons_succ]
              refine takeW (i := 4) (d := some 127) (v := ?_) rfl rfl (by kernel_rfl) (by kernel_rfl) (by kernel_rfl) (fun _ _ _ h => h) (by rfl) ?_ (by assumption) ?_
              rotate_left
              · (intro w hSw; (try dsimp only at hSw); go_simp; try with_reducible rfl)
              try simp only [Act.put, List.setIfInBounds_toArray, List.set_cons_zero, List.set_cons_succ]
              refine takeW (i := 5) (d := some 128) (v := ?_) rfl rfl (by kernel_rfl) (by kernel_rfl) (by kernel_rfl) (fun _ _ _ h => h) (by rfl) ?_ (by assumption) ?_
              rotate_left
              · (intro w hSw; (try dsimp only at hSw); go_simp; try with_reducible rfl)
              try simp only [Act.put, List.setIfInBounds_toArray, List.set_cons_zero, List.set_cons_succ]
              refine takeW (i := 6) (d := some 129) (v := ?_) rfl rfl (by kernel_rfl) (by kernel_rfl) (by kernel_rfl) (fun _ _ _ h => h) (by rfl) ?_ (by assumption) ?_
              rotate_left
              · (intro w hSw; (try dsimp only at hSw); go_simp; try with_reducible rfl)
              try simp only [Act.put, List.setIfInBounds_toArray, List.set_cons_zero, List.set_cons_succ]
              refine takeW (i := 7) (d := some 130) (v := ?_) rfl rfl (by kernel_rfl) (by kernel_rfl) (by kernel_rfl) (fun _ _ _ h => h) (by rfl) ?_ (by assumption) ?_
              rotate_left
              · (intro w hSw; (try dsimp only at hSw); go_simp; try with_reducible rfl)
              try simp only [Act.put, List.setIfInBounds_toArray, List.set_cons_zero, List.set_cons_succ]
              refine takeW (i := 8) (d := some 131) (v := ?_) rfl rfl (by kernel_rfl) (by kernel_rfl) (by kernel_rfl) (fun _ _ _ h => h) (by rfl) ?_ (by assumption) ?_
              rotate_left
              · (intro w hSw; (try dsimp only at hSw); go_simp; try with_reducible rfl)
              try simp only [Act.put, List.setIfInBounds_toArray, List.set_cons_zero, List.set_cons_succ]
              refine takeW (i := 9) (d := some 132) (v := ?_) rfl rfl (by kernel_rfl) (by kernel_rfl) (by kernel_rfl) (fun _ _ _ h => h) (by rfl) ?_ (by assumption) ?_
              rotate_left
              · (intro w hSw; (try dsimp only at hSw); go_simp; try with_reducible rfl)
              try simp only [Act.put, List.setIfInBounds_toArray, List.set_cons_zero, List.set_cons_succ]
              refine takeW (i := 10) (d := some 133) (v := ?_) rfl rfl (by kernel_rfl) (by kernel_rfl) (by kernel_rfl) (fun _ _ _ h => h) (by rfl) ?_ (by assumption) ?_
              rotate_left
              · (intro w hSw; (try dsimp only at hSw); go_simp; try with_reducible rfl)
              try simp only [Act.put, List.setIfInBounds_toArray, List.set_cons_zero, List.set_cons_succ]
              refine takeW (i := 11) (d := some 134) (v := ?_) rfl rfl (by kernel_rfl) (by kernel_rfl) (by kernel_rfl) (fun _ _ _ h => h) (by rfl) ?_ (by assumption) ?_
              rotate_left
              · (intro w hSw; (try dsimp only at hSw); go_simp; try with_reducible rfl)
              try simp only [Act.put, List.setIfInBounds_toArray, List.set_cons_zero, List.set_cons_succ]
              refine takeW (i := 12) (d := some 135) (v := ?_) rfl rfl (by kernel_rfl) (by kernel_rfl) (by kernel_rfl) (fun _ _ _ h => h) (by rfl) ?_ (by assumption) ?_
              rotate_left
              · (intro w hSw; (try dsimp only at hSw); go_simp; try with_reducible rfl)
              try simp only [Act.put, List.setIfInBounds_toArray, List.set_cons_zero, List.set_cons_succ]
              refine takeW (i := 13) (d := some 136) (v := ?_) rfl rfl (by kernel_rfl) (by kernel_rfl) (by kernel_rfl) (fun _ _ _ h => h) (by rfl) ?_ (by assumption) ?_
              rotate_left
              · (intro w hSw; (try dsimp only at hSw); go_simp; try with_reducible rfl)
              try simp only [Act.put, List.setIfInBounds_toArray, List.set_cons_zero, List.set_cons_succ]
              refine takeW (i := 14) (d := some 137) (v := ?_) rfl rfl (by kernel_rfl) (by kernel_rfl) (by kernel_rfl) (fun _ _ _ h => h) (by rfl) ?_ (by assumption) ?_
              rotate_left
              · (intro w hSw; (try dsimp only at hSw); go_simp; try with_reducible rfl)
              try simp only [Act.put, List.setIfInBounds_toArray, List.set_cons_zero, List.set_cons_succ]
              refine takeW (i := 15) (d := some 138) (v := ?_) rfl rfl (by kernel_rfl) (by kernel_rfl) (by kernel_rfl) (fun _ _ _ h => h) (by rfl) ?_ (by assumption) ?_
              rotate_left
              · (intro w hSw; (try dsimp only at hSw); go_simp; try with_reducible rfl)
              try simp only [Act.put, List.setIfInBounds_toArray, List.set_cons_zero, List.set_cons_succ]
              refine takeW (i := 16) (d := some 139) (v := ?_) rfl rfl (by kernel_rfl) (by kernel_rfl) (by kernel_rfl) (fun _ _ _ h => h) (by rfl) ?_ (by assumption) ?_
              rotate_left
              · (intro w hSw; (try dsimp only at hSw); go_simp; try with_reducible rfl)
              try simp only [Act.put, List.setIfInBounds_toArray, List.set_cons_zero, List.set_cons_succ]
              refine takeW (i := 17) (d := some 140) (v := ?_) rfl rfl (by kernel_rfl) (by kernel_rfl) (by kernel_rfl) (fun _ _ _ h => h) (by rfl) ?_ (by assumption) ?_
              rotate_left
              · (intro w hSw; (try dsimp only at hSw); go_simp; try with_reducible rfl)
              try simp only [Act.put, List.setIfInBounds_toArray, List.set_cons_zero, List.set_cons_succ]
              refine takeW (i := 18) (d := some 141) (v := ?_) rfl rfl (by kernel_rfl) (by kernel_rfl) (by kernel_rfl) (fun _ _ _ h => h) (by rfl) ?_ (by assumption) ?_
              rotate_left
              · (intro w hSw; (try dsimp only at hSw); go_simp; try with_reducible rfl)
              try simp only [Act.put, List.setIfInBounds_toArray, List.set_cons_zero, List.set_cons_succ]
              refine takeW (i := 19) (d := some 142) (v := ?_) rfl rfl (by kernel_rfl) (by kernel_rfl) (by kernel_rfl) (fun _ _ _ h => h) (by rfl) ?_ (by assumption) ?_
              rotate_left
              · (intro w hSw; (try dsimp only at hSw); go_simp; try with_reducible rfl)
              try simp only [Act.put, List.setIfInBounds_toArray, List.set_cons_zero, List.set_cons_succ]
              refine wpAnyH_done (by kernel_rfl) ?_ _
              obtain ⟨t0, t1, t2, _⟩ := S.out.ns.out
              go_wp2_with fail
              go_roundw
              case rel => exact ⟨j + 1 + 1, by go_num, by omega, S.out⟩
              case measure => show l.length - ((j + 1 : Nat) + 1 : Int).toNat < l.length - ((j + 1 : Nat) : Int).toNat; omega
          · have hi0 : (l.length : Int) ≤ (i : Int) := by omega
            go_wp2_with fail
            refine (C5.out _ _ _ _ S.out.rt).mono ?_
            rintro e w6 ⟨rfl, h6⟩
            have S := Lib.hid (S.out.below h6)
            clear h6 t0 t1 t2 e0 e1 C5
            obtain ⟨t0, t1, t2, _⟩ := S.out.ns.out
            obtain ⟨e0, e1⟩ := S.out.two
            go_wp2_with fail
            have CA := Lib.hid fun X cx W S => HF.out sm X l.length cx W s0 (by omega) S
            rw [HX.out] at CA
            have CB := Lib.hid fun W S => HA.out sm W s0 (by omega) S
            rw [HX.out] at CB
            have XA : ¬ p = 0 := by omega
            have XE : (p == 0) = false := beq_eq_false_iff_ne.2 (by omega)
            have XC : sm.tmod p = sm % p := Int.tmod_eq_emod_of_nonneg (by omega)
            have XD : 0 ≤ sm % p := Int.emod_nonneg _ (by omega)
            have XF : sm % p < p := Int.emod_lt_of_pos _ (by omega)
            have XG : IntKind.i64.wrap (sm % p) = sm % p := IntWalk.i64_in _ (by omega)
            have CC := Lib.hid fun X cx W S => HF.out (sm % p) X l.length cx W XD (by omega) S
            rw [show H (sm % p) = x by rw [HPP.out, HPH.out.mod, HX.out]] at CC
            have HM : (if (1 : Int) < (R : Int) then (R : Int) else 1) = (l.length : Int) := by have := HR.out; split <;> omega
            have HM2 : (if (R : Int) > 1 then (R : Int) else 1) = (l.length : Int) := HM
            have S := Lib.hid (S.out.drew)
            clear t0 t1 t2
            refine wp_region_held_drew (S := fun W => NS w (.slice A k c) (.slice A' k' c') W ∧ W.cell? ⟨b, 0, none⟩ = some (.slice X l.length cx) ∧ W.cell? ⟨b, 1, none⟩ = some (.slice none 0 0)) (by kernel_rfl) ?_ (fun hHeld => ?_)
            · exact ⟨NSd.out S.out.ns, S.out.two⟩
            refine wpAnyH_ready (rs := [0]) (by kernel_rfl) (by simp) ?_
            refine AllReadyH.cons rfl (fun K hK => ?_) AllReadyH.nil
            go_simp
            refine (HS.out _).mono ?_
            rintro e w4 ⟨rfl, b1⟩
            have S := Lib.hid (S.out.below b1)
            clear b1
            refine hK.out _ _ ?_ (fun hHeld => ?_)
            · exact ⟨NSd.out S.out.ns, S.out.two⟩
            clear hK K
            try simp only [Act.put, List.setIfInBounds_toArray, List.set_cons_zero, List.set_cons_succ]
            refine takeW (i := 1) (d := some 150) (v := ?_) rfl rfl (by kernel_rfl) (by kernel_rfl) (by kernel_rfl) (fun _ _ _ h => h) (by rfl) ?_ (by assumption) ?_
            rotate_left
            · (intro w hSw; (try dsimp only at hSw); go_simp; try with_reducible rfl)
            try simp only [Act.put, List.setIfInBounds_toArray, List.set_cons_zero, List.set_cons_succ]
            refine takeW (i := 2) (d := some 151) (v := ?_) rfl rfl (by kernel_rfl) (by kernel_rfl) (by kernel_rfl) (fun _ _ _ h => h) (by rfl) ?_ (by assumption) ?_
            rotate_left
            · (intro w hSw; (try dsimp only at hSw); go_simp; try with_reducible rfl)
            try simp only [Act.put, List.setIfInBounds_toArray, List.set_cons_zero, List.set_cons_succ]
            refine takeW (i := 3) (d := some 152) (v := ?_) rfl rfl (by kernel_rfl) (by kernel_rfl) (by kernel_rfl) (fun _ _ _ h => h) (by rfl) ?_ (by assumption) ?_
            rotate_left
            · (intro w hSw; (try dsimp only at hSw); go_simp; try with_reducible rfl)
            try simp only [Act.put, List.setIfInBounds_toArray, List.set_cons_zero, List.set_cons_succ]
            refine takeW (i := 4) (d := some 153) (v := ?_) rfl rfl (by kernel_rfl) (by kernel_rfl) (by kernel_rfl) (fun _ _ _ h => h) (by rfl) ?_ (by assumption) ?_
            rotate_left
            · (intro w hSw; (try dsimp only at hSw); go_simp; try with_reducible rfl)
            try simp only [Act.put, List.setIfInBounds_toArray, List.set_cons_zero, List.set_cons_succ]
            refine takeW (i := 5) (d := some 154) (v := ?_) rfl rfl (by kernel_rfl) (by kernel_rfl) (by kernel_rfl) (fun _ _ _ h => h) (by rfl) ?_ (by assumption) ?_
            rotate_left
            · (intro w hSw; (try dsimp only at hSw); go_simp; try with_reducible rfl)
            try simp only [Act.put, List.setIfInBounds_toArray, List.set_cons_zero, List.set_cons_succ]
            refine takeW (i := 6) (d := some 155) (v := ?_) rfl rfl (by kernel_rfl) (by kernel_rfl) (by kernel_rfl) (fun _ _ _ h => h) (by rfl) ?_ (by assumption) ?_
            rotate_left
            · (intro w hSw; (try dsimp only at hSw); go_simp; try with_reducible rfl)
            try simp only [Act.put, List.setIfInBounds_toArray, List.set_cons_zero, List.set_cons_succ]
            refine takeW (i := 7) (d := some 156) (v := ?_) rfl rfl (by kernel_rfl) (by kernel_rfl) (by kernel_rfl) (fun _ _ _ h => h) (by rfl) ?_ (by assumption) ?_
            rotate_left
            · (intro w hSw; (try dsimp only at hSw); go_simp; try with_reducible rfl)
            try simp only [Act.put, List.setIfInBounds_toArray, List.set_cons_zero, List.set_cons_succ]
            refine takeW (i := 8) (d := some 157) (v := ?_) rfl rfl (by kernel_rfl) (by kernel_rfl) (by kernel_rfl) (fun _ _ _ h => h) (by rfl) ?_ (by assumption) ?_
            rotate_left
            · (intro w hSw; (try dsimp only at hSw); go_simp; try with_reducible rfl)
            try simp only [Act.put, List.setIfInBounds_toArray, List.set_cons_zero, List.set_cons_succ]
            refine takeW (i := 9) (d := some 158) (v := ?_) rfl rfl (by kernel_rfl) (by kernel_rfl) (by kernel_rfl) (fun _ _ _ h => h) (by rfl) ?_ (by assumption) ?_
            rotate_left
            · (intro w hSw; (try dsimp only at hSw); go_simp; try with_reducible rfl)
            try simp only [Act.put, List.setIfInBounds_toArray, List.set_cons_zero, List.set_cons_succ]
            refine takeW (i := 10) (d := some 159) (v := ?_) rfl rfl (by kernel_rfl) (by kernel_rfl) (by kernel_rfl) (fun _ _ _ h => h) (by rfl) ?_ (by assumption) ?_
            rotate_left
            · (intro w hSw; (try dsimp only at hSw); go_simp; try with_reducible rfl)
            try simp only [Act.put, List.setIfInBounds_toArray, List.set_cons_zero, List.set_cons_succ]
            refine takeW (i := 11) (d := some 160) (v := ?_) rfl rfl (by kernel_rfl) (by kernel_rfl) (by kernel_rfl) (fun _ _ _ h => h) (by rfl) ?_ (by assumption) ?_
            rotate_left
            · (intro w hSw; (try dsimp only at hSw); go_simp; try with_reducible rfl)
            try simp only [Act.put, List.setIfInBounds_toArray, List.set_cons_zero, List.set_cons_succ]
            refine takeW (i := 12) (d := some 161) (v := ?_) rfl rfl (by kernel_rfl) (by kernel_rfl) (by kernel_rfl) (fun _ _ _ h => h) (by rfl) ?_ (by assumption) ?_
            rotate_left
            · (intro w hSw; (try dsimp only at hSw); go_simp; try with_reducible rfl)
            try simp only [Act.put, List.setIfInBounds_toArray, List.set_cons_zero, List.set_cons_succ]
            refine takeW (i := 13) (d := some 162) (v := ?_) rfl rfl (by kernel_rfl) (by kernel_rfl) (by kernel_rfl) (fun _ _ _ h => h) (by rfl) ?_ (by assumption) ?_
            rotate_left
            · (intro w hSw; (try dsimp only at hSw); go_simp; try with_reducible rfl)
            try simp only [Act.put, List.setIfInBounds_toArray, List.set_cons_zero, List.set_cons_succ]
            refine takeW (i := 14) (d := some 163) (v := ?_) rfl rfl (by kernel_rfl) (by kernel_rfl) (by kernel_rfl) (fun _ _ _ h => h) (by rfl) ?_ (by assumption) ?_
            rotate_left
            · (intro w hSw; (try dsimp only at hSw); go_simp; try with_reducible rfl)
            try simp only [Act.put, List.setIfInBounds_toArray, List.set_cons_zero, List.set_cons_succ]
            refine takeW (i := 15) (d := some 164) (v := ?_) rfl rfl (by kernel_rfl) (by kernel_rfl) (by kernel_rfl) (fun _ _ _ h => h) (by rfl) ?_ (by assumption) ?_
            rotate_left
            · (intro w hSw; (try dsimp only at hSw); go_simp; try with_reducible rfl)
            try simp only [Act.put, List.setIfInBounds_toArray, List.set_cons_zero, List.set_cons_succ]
            refine takeW (i := 16) (d := some 165) (v := ?_) rfl rfl (by kernel_rfl) (by kernel_rfl) (by kernel_rfl) (fun _ _ _ h => h) (by rfl) ?_ (by assumption) ?_
            rotate_left
            · (intro w hSw; (try dsimp only at hSw); go_simp; try with_reducible rfl)
            try simp only [Act.put, List.setIfInBounds_toArray, List.set_cons_zero, List.set_cons_succ]
            refine takeW (i := 17) (d := some 166) (v := ?_) rfl rfl (by kernel_rfl) (by kernel_rfl) (by kernel_rfl) (fun _ _ _ h => h) (by rfl) ?_ (by assumption) ?_
            rotate_left
            · (intro w hSw; (try dsimp only at hSw); go_simp; try with_reducible rfl)
            try simp only [Act.put, List.setIfInBounds_toArray, List.set_cons_zero, List.set_cons_succ]
            refine takeW (i := 18) (d := some 167) (v := ?_) rfl rfl (by kernel_rfl) (by kernel_rfl) (by kernel_rfl) (fun _ _ _ h => h) (by rfl) ?_ (by assumption) ?_
            rotate_left
            · (intro w hSw; (try dsimp only at hSw); go_simp; try with_reducible rfl)
            try simp only [Act.put, List.setIfInBounds_toArray, List.set_cons_zero, List.set_cons_succ]
            refine takeW (i := 19) (d := some 168) (v := ?_) rfl rfl (by kernel_rfl) (by kernel_rfl) (by kernel_rfl) (fun _ _ _ h => h) (by rfl) ?_ (by assumption) ?_
            rotate_left
            · (intro w hSw; (try dsimp only at hSw); go_simp; try with_reducible rfl)
            try simp only [Act.put, List.setIfInBounds_toArray, List.set_cons_zero, List.set_cons_succ]
            refine takeW (i := 20) (d := some 169) (v := ?_) rfl rfl (by kernel_rfl) (by kernel_rfl) (by kernel_rfl) (fun _ _ _ h => h) (by rfl) ?_ (by assumption) ?_
            rotate_left
            · (intro w hSw; (try dsimp only at hSw); go_simp; try with_reducible rfl)
            try simp only [Act.put, List.setIfInBounds_toArray, List.set_cons_zero, List.set_cons_succ]
            refine takeW (i := 21) (d := some 170) (v := ?_) rfl rfl (by kernel_rfl) (by kernel_rfl) (by kernel_rfl) (fun _ _ _ h => h) (by rfl) ?_ (by assumption) ?_
            rotate_left
            · (intro w hSw; (try dsimp only at hSw); go_simp; try with_reducible rfl)
            try simp only [Act.put, List.setIfInBounds_toArray, List.set_cons_zero, List.set_cons_succ]
            refine takeW (i := 22) (d := some 171) (v := ?_) rfl rfl (by kernel_rfl) (by kernel_rfl) (by kernel_rfl) (fun _ _ _ h => h) (by rfl) ?_ (by assumption) ?_
            rotate_left
            · (intro w hSw; (try dsimp only at hSw); go_simp; try with_reducible rfl)
            try simp only [Act.put, List.setIfInBounds_toArray, List.set_cons_zero, List.set_cons_succ]
            refine takeW (i := 23) (d := some 172) (v := ?_) rfl rfl (by kernel_rfl) (by kernel_rfl) (by kernel_rfl) (fun _ _ _ h => h) (by rfl) ?_ (by assumption) ?_
            rotate_left
            · (intro w hSw; (try dsimp only at hSw); go_simp; try with_reducible rfl)
            try simp only [Act.put, List.setIfInBounds_toArray, List.set_cons_zero, List.set_cons_succ]
            refine takeW (i := 24) (d := some 173) (v := ?_) rfl rfl (by kernel_rfl) (by kernel_rfl) (by kernel_rfl) (fun _ _ _ h => h) (by rfl) ?_ (by assumption) ?_
            rotate_left
            · (intro w hSw; (try dsimp only at hSw); go_simp; try with_reducible rfl)
            try simp only [Act.put, List.setIfInBounds_toArray, List.set_cons_zero, List.set_cons_succ]
            refine takeW (i := 25) (d := some 174) (v := ?_) rfl rfl (by kernel_rfl) (by kernel_rfl) (by kernel_rfl) (fun _ _ _ h => h) (by rfl) ?_ (by assumption) ?_
            rotate_left
            · (intro w hSw; (try dsimp only at hSw); go_simp; try with_reducible rfl)
            try simp only [Act.put, List.setIfInBounds_toArray, List.set_cons_zero, List.set_cons_succ]
            refine takeW (i := 26) (d := some 175) (v := ?_) rfl rfl (by kernel_rfl) (by kernel_rfl) (by kernel_rfl) (fun _ _ _ h => h) (by rfl) ?_ (by assumption) ?_
            rotate_left
            · (intro w hSw; (try dsimp only at hSw); go_simp; try with_reducible rfl)
            try simp only [Act.put, List.setIfInBounds_toArray, List.set_cons_zero, List.set_cons_succ]
            refine takeW (i := 28) (d := some 177) (v := ?_) rfl rfl (by kernel_rfl) (by kernel_rfl) (by kernel_rfl) (fun _ _ _ h => h) (by rfl) ?_ (by assumption) ?_
            rotate_left
            · (intro w hSw; (try dsimp only at hSw); go_simp; try with_reducible rfl)
            try simp only [Act.put, List.setIfInBounds_toArray, List.set_cons_zero, List.set_cons_succ]
            refine takeW (i := 29) (d := some 178) (v := ?_) rfl rfl (by kernel_rfl) (by kernel_rfl) (by kernel_rfl) (fun _ _ _ h => h) (by rfl) ?_ (by assumption) ?_
            rotate_left
            · (intro w hSw; (try dsimp only at hSw); go_simp; try with_reducible rfl)
            try simp only [Act.put, List.setIfInBounds_toArray, List.set_cons_zero, List.set_cons_succ]
            refine wpAnyH_ready (rs := [27]) (by kernel_rfl) (by simp) ?_
            refine AllReadyH.cons rfl (fun K hK => ?_) AllReadyH.nil
            refine ite_intro (by rfl) ?_
            go_simp
            refine (CA.out _ _ _ S.out.rt).mono ?_
            rintro e w4 ⟨rfl, b1⟩
            have S := Lib.hid (S.out.below b1)
            clear b1
            refine hK.out _ _ ?_ (fun hHeld => ?_)
            · exact ⟨NSd.out S.out.ns, S.out.two⟩
            clear hK K
            try simp only [Act.put, List.setIfInBounds_toArray, List.set_cons_zero, List.set_cons_succ]
            refine wpAnyH_ready (rs := [30]) (by kernel_rfl) (by simp) ?_
            refine AllReadyH.cons rfl (fun K hK => ?_) AllReadyH.nil
            refine ite_intro (by rfl) ?_
            go_simp
            refine (CB.out _ S.out.ns).mono ?_
            rintro e w4 ⟨rfl, b1⟩
            have S := Lib.hid (S.out.below b1)
            clear b1
            refine hK.out _ _ ?_ (fun hHeld => ?_)
            · exact ⟨NSd.out S.out.ns, S.out.two⟩
            clear hK K
            try simp only [Act.put, List.setIfInBounds_toArray, List.set_cons_zero, List.set_cons_succ]
            refine takeW (i := 31) (d := some 180) (v := ?_) rfl rfl (by kernel_rfl) (by kernel_rfl) (by kernel_rfl) (fun _ _ _ h => h) (by rfl) ?_ (by assumption) ?_
            rotate_left
            · (intro w hSw; (try dsimp only at hSw); go_simp; try with_reducible rfl)
            try simp only [Act.put, List.setIfInBounds_toArray, List.set_cons_zero, List.set_cons_succ]
            refine takeW (i := 32) (d := some 181) (v := ?_) rfl rfl (by kernel_rfl) (by kernel_rfl) (by kernel_rfl) (fun _ _ _ h => h) (by rfl) ?_ (by assumption) ?_
            rotate_left
            · (intro w hSw; (try dsimp only at hSw); go_simp; try with_reducible rfl)
            try simp only [Act.put, List.setIfInBounds_toArray, List.set_cons_zero, List.set_cons_succ]
            refine takeW (i := 33) (d := some 182) (v := ?_) rfl rfl (by kernel_rfl) (by kernel_rfl) (by kernel_rfl) (fun _ _ _ h => h) (by rfl) ?_ (by assumption) ?_
            rotate_left
            · (intro w hSw; (try dsimp only at hSw); go_simp; try with_reducible rfl)
            try simp only [Act.put, List.setIfInBounds_toArray, List.set_cons_zero, List.set_cons_succ]
            refine takeW (i := 34) (d := some 183) (v := ?_) rfl rfl (by kernel_rfl) (by kernel_rfl) (by kernel_rfl) (fun _ _ _ h => h) (by rfl) ?_ (by assumption) ?_
            rotate_left
            · (intro w hSw; (try dsimp only at hSw); go_simp; try with_reducible rfl)
            try simp only [Act.put, List.setIfInBounds_toArray, List.set_cons_zero, List.set_cons_succ]
            refine takeW (i := 35) (d := some 184) (v := ?_) rfl rfl (by kernel_rfl) (by kernel_rfl) (by kernel_rfl) (fun _ _ _ h => h) (by rfl) ?_ (by assumption) ?_
            rotate_left
            · (intro w hSw; (try dsimp only at hSw); go_simp; try with_reducible rfl)
            try simp only [Act.put, List.setIfInBounds_toArray, List.set_cons_zero, List.set_cons_succ]
            refine takeW (i := 36) (d := some 185) (v := ?_) rfl rfl (by kernel_rfl) (by kernel_rfl) (by kernel_rfl) (fun _ _ _ h => h) (by rfl) ?_ (by assumption) ?_
            rotate_left
            · (intro w hSw; (try dsimp only at hSw); go_simp; try with_reducible rfl)
            try simp only [Act.put, List.setIfInBounds_toArray, List.set_cons_zero, List.set_cons_succ]
            refine takeW (i := 37) (d := some 186) (v := ?_) rfl rfl (by kernel_rfl) (by kernel_rfl) (by kernel_rfl) (fun _ _ _ h => h) (by rfl) ?_ (by assumption) ?_
            rotate_left
            · (intro w hSw; (try dsimp only at hSw); go_simp; try with_reducible rfl)
            try simp only [Act.put, List.setIfInBounds_toArray, List.set_cons_zero, List.set_cons_succ]
            refine takeW (i := 39) (d := some 188) (v := ?_) rfl rfl (by kernel_rfl) (by kernel_rfl) (by kernel_rfl) (fun _ _ _ h => h) (by rfl) ?_ (by assumption) ?_
            rotate_left
            · (intro w hSw; (try dsimp only at hSw); go_simp; try with_reducible rfl)
            try simp only [Act.put, List.setIfInBounds_toArray, List.set_cons_zero, List.set_cons_succ]
            refine takeW (i := 40) (d := some 189) (v := ?_) rfl rfl (by kernel_rfl) (by kernel_rfl) (by kernel_rfl) (fun _ _ _ h => h) (by rfl) ?_ (by assumption) ?_
            rotate_left
            · (intro w hSw; (try dsimp only at hSw); go_simp; try with_reducible rfl)
            try simp only [Act.put, List.setIfInBounds_toArray, List.set_cons_zero, List.set_cons_succ]
            refine wpAnyH_ready (rs := [38]) (by kernel_rfl) (by simp) ?_
            refine AllReadyH.cons rfl (fun K hK => ?_) AllReadyH.nil
            refine ite_intro (by rfl) ?_
            go_simp
            refine (CC.out _ _ _ S.out.rt).mono ?_
            rintro e w4 ⟨rfl, b1⟩
            have S := Lib.hid (S.out.below b1)
            clear b1
            refine hK.out _ _ ?_ (fun hHeld => ?_)
            · exact ⟨NSd.out S.out.ns, S.out.two⟩
            clear hK K
            try simp only [Act.put, List.setIfInBounds_toArray, List.set_cons_zero, List.set_cons_succ]
            refine wpAnyH_ready (rs := [41]) (by kernel_rfl) (by simp) ?_
            refine AllReadyH.cons rfl (fun K hK => ?_) AllReadyH.nil
            refine ite_intro (by rfl) ?_
            go_simp
            refine (CB.out _ S.out.ns).mono ?_
            rintro e w4 ⟨rfl, b1⟩
            have S := Lib.hid (S.out.below b1)
            clear b1
            refine hK.out _ _ ?_ (fun hHeld => ?_)
            · exact ⟨NSd.out S.out.ns, S.out.two⟩
            clear hK K
            try simp only [Act.put, List.setIfInBounds_toArray, List.set_cons_zero, List.set_cons_succ]
            refine takeW (i := 42) (d := some 191) (v := ?_) rfl rfl (by kernel_rfl) (by kernel_rfl) (by kernel_rfl) (fun _ _ _ h => h) (by rfl) ?_ (by assumption) ?_
            rotate_left
            · (intro w hSw; (try dsimp only at hSw); go_simp; try with_reducible rfl)
            try simp only [Act.put, List.setIfInBounds_toArray, List.set_cons_zero, List.set_cons_succ]
            refine takeW (i := 43) (d := some 192) (v := ?_) rfl rfl (by kernel_rfl) (by kernel_rfl) (by kernel_rfl) (fun _ _ _ h => h) (by rfl) ?_ (by assumption) ?_
            rotate_left
            · (intro w hSw; (try dsimp only at hSw); go_simp; try with_reducible rfl)
            try simp only [Act.put, List.setIfInBounds_toArray, List.set_cons_zero, List.set_cons_succ]
            refine takeW (i := 44) (d := some 4) (v := ?_) rfl rfl (by kernel_rfl) (by kernel_rfl) (by kernel_rfl) (fun _ _ _ h => h) (by rfl) ?_ (by assumption) ?_
            rotate_left
            · (intro w hSw; (try dsimp only at hSw); go_simp; try with_reducible rfl)
            try simp only [Act.put, List.setIfInBounds_toArray, List.set_cons_zero, List.set_cons_succ]
            refine wpAnyH_done (by kernel_rfl) ?_ _
            obtain ⟨t0, t1, t2, _⟩ := S.out.ns.out
            go_wp2_with fail
            go_ret
            exact ⟨by simp, S.out.bel⟩
end Go.Proofs.YtlhgpeelenelbaaDoor
