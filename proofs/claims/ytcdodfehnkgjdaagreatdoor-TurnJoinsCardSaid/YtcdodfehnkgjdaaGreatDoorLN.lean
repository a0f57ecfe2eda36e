/- The law TurnJoins, where a set is not right. -/
import Derived.Test.YtcdodfehnkgjdaaGreatDoorLI
import Derived.Test.YtcdodfehnkgjdaaGreatDoorLJ
import Derived.Test.YtcdodfehnkgjdaaGreatDoorLK
namespace Go.Proofs.YtcdodfehnkgjdaaGreatDoor
open Go.RowKit

set_option maxHeartbeats 16000000 in
set_option maxRecDepth 100000 in
theorem joins_bad (hsan : ∀ W, Calls Tryz.prog 5 #[] W fun e w' => e = .returned (.bool true) ∧ Below W.heap.size W w') (A A' B B' : Option Addr) (k c k' c' l d l' d' : Nat) (by_ mn : Int) (ta tb : List T3) (sa sb : List S2) (ck cl : Int) (w : World)
    (h : RM w.heap.size (.agg #[.slice A k c, .slice A' k' c']) ta sa w) (h' : RM w.heap.size (.agg #[.slice B l d, .slice B' l' d']) tb sb w) (f1 : fewB k k' = true) (f2 : fewB l l' = true)
    (m1 : ¬ mn < 0) (m2 : mn ≤ 1048576) (b1 : ¬ by_ < -1048576) (b2 : by_ ≤ 1048576) (hck : CheckIs ta sa ck) (hcl : CheckIs tb sb cl) (h0 : ck ≠ 0 ∨ cl ≠ 0) :
    Calls Tryz.prog 4 #[.agg #[.slice A k c, .slice A' k' c'], .agg #[.slice B l d, .slice B' l' d'], .int .i64 by_, .int .i64 mn] w fun e w' => e = .returned (.bool true) ∧ Below w.heap.size w w' := by
  have HS := Lib.hid hsan
  have S0 := Lib.hid (N2d.new (w := w) (v0 := .slice A k c) (v1 := .slice A' k' c') (u0 := .slice B l d) (u1 := .slice B' l' d') 25 25)
  have F := Lib.hid fun W => few_any A A' k c k' c' W
  have F' := Lib.hid fun W => few_any B B' l d l' d' W
  rw [f1] at F
  rw [f2] at F'
  have C1 := Lib.hid fun W (S : N2d w (.slice A k c) (.slice A' k' c') (.slice B l d) (.slice B' l' d') W) => union_any A A' B B' k c k' c' l d l' d' ta tb sa sb ck cl W (h.up S.siz S.bel) (h'.up S.siz S.bel) hck hcl
  have C2 := Lib.hid fun W (S : N2d w (.slice A k c) (.slice A' k' c') (.slice B l d) (.slice B' l' d') W) => union_any B B' A A' l d l' d' k c k' c' tb ta sb sa cl ck W (h'.up S.siz S.bel) (h.up S.siz S.bel) hcl hck
  have C3 := Lib.hid fun W (S : N2d w (.slice A k c) (.slice A' k' c') (.slice B l d) (.slice B' l' d') W) => shift_any A A' k c k' c' ta sa by_ ck W (h.up S.siz S.bel) hck
  have H := Lib.hid h
  have H' := Lib.hid h'
  have HA := Lib.hid hck
  have HB := Lib.hid hcl
  have CA := Lib.hid fun W (S : N2d w (.slice A k c) (.slice A' k' c') (.slice B l d) (.slice B' l' d') W) => check_rm (h.up S.siz S.bel) hck
  have CB := Lib.hid fun W (S : N2d w (.slice A k c) (.slice A' k' c') (.slice B l d) (.slice B' l' d') W) => check_rm (h'.up S.siz S.bel) hcl
  clear hsan h h' hck hcl f1 f2
  go_enter Tryz.func4, Tryz.ntmps4
  go_wp2_with fail
  refine (F.out _).mono ?_
  rintro e w1 ⟨rfl, h1⟩
  have S := Lib.hid (S0.out.below h1)
  clear h1 S0
  obtain ⟨t0, t1, t2, t3, t4, _⟩ := S.out.out
  go_wp2_with fail
  refine (F'.out _).mono ?_
  rintro e w2 ⟨rfl, h2⟩
  have S := Lib.hid (S.out.below h2)
  clear h2 t0 t1 t2 t3 t4
  obtain ⟨t0, t1, t2, t3, t4, _⟩ := S.out.out
  go_wp2_with fail
  refine (C1.out _ S.out).mono ?_
  rintro e w3 ⟨v, u, tu, su, d1, rfl, r1, q1, h3, hu⟩
  obtain ⟨X, nx, cx, rfl⟩ := r1.slice
  obtain ⟨X', nx', cx', rfl⟩ := q1.slice
  have ba := (Below.refl w3.heap.size w3).alloc (Nat.le_refl _) (.cells #[.slice X nx cx, .slice X' nx' cx'] 25)
  have S := Lib.hid ((S.out.below h3).below ba)
  have T1 := Lib.hid (Two.new (W := w3) (x := .slice X nx cx) (y := .slice X' nx' cx') 25)
  have R1 := Lib.hid (r1.later ba)
  have Q1 := Lib.hid (q1.later ba)
  have HU := Lib.hid hu
  clear h3 hu r1 q1 ba t0 t1 t2 t3 t4 C1
  obtain ⟨t0, t1, t2, t3, t4, _⟩ := S.out.out
  go_wp2_with fail
  refine (C2.out _ S.out).mono ?_
  rintro e w4 ⟨v, u, tv, sv, d2, rfl, r2, q2, h4, hv⟩
  obtain ⟨Y, ny, cy, rfl⟩ := r2.slice
  obtain ⟨Y', ny', cy', rfl⟩ := q2.slice
  have ba := (Below.refl w4.heap.size w4).alloc (Nat.le_refl _) (.cells #[.slice Y ny cy, .slice Y' ny' cy'] 25)
  have S := Lib.hid ((S.out.below h4).below ba)
  have T1 := Lib.hid ((T1.out.below h4).below ba)
  have T2 := Lib.hid (Two.new (W := w4) (x := .slice Y ny cy) (y := .slice Y' ny' cy') 25)
  have R1 := Lib.hid ((R1.out.later h4).later ba)
  have Q1 := Lib.hid ((Q1.out.later h4).later ba)
  have R2 := Lib.hid (r2.later ba)
  have Q2 := Lib.hid (q2.later ba)
  have HV := Lib.hid hv
  clear h4 hv r2 q2 ba t0 t1 t2 t3 t4 C2
  have hd1 := HU.out.bad h0
  have hd2 : (d1 != 0) = true := by rw [bne_iff_ne]; exact hd1
  have hd3 : (d1 == 0) = false := by rw [beq_eq_false_iff_ne]; exact hd1
  clear T1 T2 R1 Q1 R2 Q2 HU HV hd1
  by_cases he : d1 = d2
  · subst he
    clear CA CB h0
    obtain ⟨t0, t1, t2, t3, t4, _⟩ := S.out.out
    go_wp2_with fail
    go_quiet (fail)
    go_wp2_with fail
    refine (C3.out _ (S.out.below (below_drewN (Below.refl _ _) _))).mono ?_
    rintro e w13 ⟨v, ls, d3, rfl, r3, h13, hf⟩
    obtain ⟨Z, nz, cz, rfl⟩ := r3.slice
    have ba := (Below.refl w13.heap.size w13).alloc (Nat.le_refl _) (.cells #[.slice Z nz cz, .slice none 0 0] 25)
    have S := Lib.hid (((S.out.below (below_drewN (Below.refl _ _) _)).below h13).below ba)
    have T3_ := Lib.hid (Two.new (W := w13) (x := .slice Z nz cz) (y := .slice none 0 0) 25)
    have R3 := Lib.hid (r3.later ba)
    have HF := Lib.hid hf
    clear h13 hf r3 ba t0 t1 t2 t3 t4 C3
    have hwr : IntKind.i64.wrap (mn - by_) = mn - by_ := IntWalk.i64_in _ (by omega)
    have hs : d3 ≠ 0 ∨ (d3 = 0 ∧ mn - by_ < 0) ∨ (d3 = 0 ∧ ¬ mn - by_ < 0 ∧ 1048576 < mn - by_) ∨ (d3 = 0 ∧ ¬ mn - by_ < 0 ∧ mn - by_ ≤ 1048576) := by omega
    rcases hs with a1 | ⟨rfl, a1⟩ | ⟨rfl, a1, a2⟩ | ⟨rfl, a1, a2⟩
    · have hb0 : (d3 != 0) = true := by rw [bne_iff_ne]; exact a1
      clear a1
      go_wp2_with fail
      refine (HS.out _).mono ?_
      rintro e w14 ⟨rfl, h14⟩
      have S := Lib.hid (S.out.below h14)
      clear h14
      go_wp2_with fail
      go_ret
      exact ⟨rfl, S.out.bel⟩
    · go_wp2_with fail
      refine (HS.out _).mono ?_
      rintro e w14 ⟨rfl, h14⟩
      have S := Lib.hid (S.out.below h14)
      clear h14
      go_wp2_with fail
      go_ret
      exact ⟨rfl, S.out.bel⟩
    · go_wp2_with fail
      refine (HS.out _).mono ?_
      rintro e w14 ⟨rfl, h14⟩
      have S := Lib.hid (S.out.below h14)
      clear h14
      go_wp2_with fail
      go_ret
      exact ⟨rfl, S.out.bel⟩
    · obtain ⟨hc0, hcl, hv⟩ := HF.out.good HA.out rfl mn ⟨by omega, by omega⟩ ⟨by omega, by omega⟩
      have I0 : In12 w (.slice A k c) (.slice A' k' c') (.slice B l d) (.slice B' l' d') w13.heap.size (.slice Z nz cz) (.slice none 0 0) ls (w13.alloc (.cells #[.slice Z nz cz, .slice none 0 0] 25)) := ⟨S.out, T3_.out, rm_of R3.out⟩
      have HSI := Lib.hid fun W (_ : In12 w (.slice A k c) (.slice A' k' c') (.slice B l d) (.slice B' l' d') w13.heap.size (.slice Z nz cz) (.slice none 0 0) ls W) => HS.out W
      have Gs := Lib.hid fun W (S : In12 w (.slice A k c) (.slice A' k' c') (.slice B l d) (.slice B' l' d') w13.heap.size (.slice Z nz cz) (.slice none 0 0) ls W) => has_any Z none nz cz 0 0 ls [] mn W S.2.2 hcl
      have Gt := Lib.hid fun W (S : In12 w (.slice A k c) (.slice A' k' c') (.slice B l d) (.slice B' l' d') w13.heap.size (.slice Z nz cz) (.slice none 0 0) ls W) => has_any A A' k c k' c' ta sa (mn - by_) W (H.out.up S.1.siz S.1.bel) (HA.out.unique0 hc0)
      rw [hv] at Gs
      generalize hasV ta sa (mn - by_) = gam at Gs Gt
      clear hv hcl hc0 HF
      have HI := Lib.hid I0
      clear I0
      go_wp2_with fail
      refine wp_region_held_drew (S := In12 w (.slice A k c) (.slice A' k' c') (.slice B l d) (.slice B' l' d') w13.heap.size (.slice Z nz cz) (.slice none 0 0) ls) (by kernel_rfl) (HI.out.below (Below.refl _ _).drew) (fun I0 => ?_)
      refine wpAnyH_ready (rs := [0]) (by kernel_rfl) (by simp) ?_
      refine AllReadyH.cons rfl (fun K hK => ?_) AllReadyH.nil
      go_simp
      refine (HSI.out _ I0).mono ?_
      rintro e w15 ⟨rfl, hb15⟩
      have I15 := I0.below hb15
      clear hb15
      refine hK.out _ _ I15 (fun _ => ?_)
      clear hK K
      try simp only [Act.put, List.setIfInBounds_toArray, List.set_cons_zero, List.set_cons_succ]
      refine takeW (i := 1) (d := some 117) (v := ?_) rfl rfl (by kernel_rfl) (by kernel_rfl) (by kernel_rfl) (fun _ _ _ h => h) (by rfl) ?_ I15 ?_
      rotate_left
      · (intro w' hSw; obtain ⟨q0, q1, q2, q3⟩ := hSw.cells; go_simp; try with_reducible rfl)
      try simp only [Act.put, List.setIfInBounds_toArray, List.set_cons_zero, List.set_cons_succ]
      refine takeW (i := 2) (d := some 118) (v := ?_) rfl rfl (by kernel_rfl) (by kernel_rfl) (by kernel_rfl) (fun _ _ _ h => h) (by rfl) ?_ I15 ?_
      rotate_left
      · (intro w' hSw; obtain ⟨q0, q1, q2, q3⟩ := hSw.cells; go_simp; try with_reducible rfl)
      try simp only [Act.put, List.setIfInBounds_toArray, List.set_cons_zero, List.set_cons_succ]
      refine takeW (i := 3) (d := some 119) (v := ?_) rfl rfl (by kernel_rfl) (by kernel_rfl) (by kernel_rfl) (fun _ _ _ h => h) (by rfl) ?_ I15 ?_
      rotate_left
      · (intro w' hSw; obtain ⟨q0, q1, q2, q3⟩ := hSw.cells; go_simp; try with_reducible rfl)
      try simp only [Act.put, List.setIfInBounds_toArray, List.set_cons_zero, List.set_cons_succ]
      refine takeW (i := 5) (d := some 121) (v := ?_) rfl rfl (by kernel_rfl) (by kernel_rfl) (by kernel_rfl) (fun _ _ _ h => h) (by rfl) ?_ I15 ?_
      rotate_left
      · (intro w' hSw; obtain ⟨q0, q1, q2, q3⟩ := hSw.cells; go_simp; try with_reducible rfl)
      try simp only [Act.put, List.setIfInBounds_toArray, List.set_cons_zero, List.set_cons_succ]
      refine takeW (i := 6) (d := some 122) (v := ?_) rfl rfl (by kernel_rfl) (by kernel_rfl) (by kernel_rfl) (fun _ _ _ h => h) (by rfl) ?_ I15 ?_
      rotate_left
      · (intro w' hSw; obtain ⟨q0, q1, q2, q3⟩ := hSw.cells; go_simp; try with_reducible rfl)
      try simp only [Act.put, List.setIfInBounds_toArray, List.set_cons_zero, List.set_cons_succ]
      refine takeW (i := 7) (d := some 123) (v := ?_) rfl rfl (by kernel_rfl) (by kernel_rfl) (by kernel_rfl) (fun _ _ _ h => h) (by rfl) ?_ I15 ?_
      rotate_left
      · (intro w' hSw; obtain ⟨q0, q1, q2, q3⟩ := hSw.cells; go_simp; try with_reducible rfl)
      try simp only [Act.put, List.setIfInBounds_toArray, List.set_cons_zero, List.set_cons_succ]
      refine takeW (i := 8) (d := some 124) (v := ?_) rfl rfl (by kernel_rfl) (by kernel_rfl) (by kernel_rfl) (fun _ _ _ h => h) (by rfl) ?_ I15 ?_
      rotate_left
      · (intro w' hSw; obtain ⟨q0, q1, q2, q3⟩ := hSw.cells; go_simp; try with_reducible rfl)
      try simp only [Act.put, List.setIfInBounds_toArray, List.set_cons_zero, List.set_cons_succ]
      refine wpAnyH_ready (rs := [4]) (by kernel_rfl) (by simp) ?_
      refine AllReadyH.cons rfl (fun K hK => ?_) AllReadyH.nil
      go_simp
      refine (Gs.out _ I15).mono ?_
      rintro e w16 ⟨rfl, hb16⟩
      have I16 := I15.below hb16
      clear hb16
      refine hK.out _ _ I16 (fun _ => ?_)
      clear hK K
      try simp only [Act.put, List.setIfInBounds_toArray, List.set_cons_zero, List.set_cons_succ]
      refine wpAnyH_ready (rs := [9]) (by kernel_rfl) (by simp) ?_
      refine AllReadyH.cons rfl (fun K hK => ?_) AllReadyH.nil
      go_simp
      refine (Gt.out _ I16).mono ?_
      rintro e w17 ⟨rfl, hb17⟩
      have I17 := I16.below hb17
      clear hb17
      refine hK.out _ _ I17 (fun _ => ?_)
      clear hK K
      try simp only [Act.put, List.setIfInBounds_toArray, List.set_cons_zero, List.set_cons_succ]
      refine takeW (i := 10) (d := some 126) (v := ?_) rfl rfl (by kernel_rfl) (by kernel_rfl) (by kernel_rfl) (fun _ _ _ h => h) (by rfl) ?_ I17 ?_
      rotate_left
      · (intro w' hSw; obtain ⟨q0, q1, q2, q3⟩ := hSw.cells; go_simp; try with_reducible rfl)
      try simp only [Act.put, List.setIfInBounds_toArray, List.set_cons_zero, List.set_cons_succ]
      refine takeW (i := 11) (d := some 127) (v := ?_) rfl rfl (by kernel_rfl) (by kernel_rfl) (by kernel_rfl) (fun _ _ _ h => h) (by rfl) ?_ I17 ?_
      rotate_left
      · (intro w' hSw; obtain ⟨q0, q1, q2, q3⟩ := hSw.cells; go_simp; try with_reducible rfl)
      try simp only [Act.put, List.setIfInBounds_toArray, List.set_cons_zero, List.set_cons_succ]
      refine takeW (i := 12) (d := some 8) (v := ?_) rfl rfl (by kernel_rfl) (by kernel_rfl) (by kernel_rfl) (fun _ _ _ h => h) (by rfl) ?_ I17 ?_
      rotate_left
      · (intro w' hSw; obtain ⟨q0, q1, q2, q3⟩ := hSw.cells; go_simp; try with_reducible rfl)
      try simp only [Act.put, List.setIfInBounds_toArray, List.set_cons_zero, List.set_cons_succ]
      refine wpAnyH_done (by kernel_rfl) ?_ _
      go_wp2_with fail
      go_ret
      exact ⟨by cases gam <;> rfl, I17.1.bel⟩
  · have he2 : (d1 != d2) = true := by rw [bne_iff_ne]; exact he
    clear he
    obtain ⟨t0, t1, t2, t3, t4, _⟩ := S.out.out
    by_cases hk0 : ck = 0
    · subst hk0
      have hl0 : (cl == 0) = false := by rw [beq_eq_false_iff_ne]; rcases h0 with h0 | h0; exact absurd rfl h0; exact h0
      clear h0
      go_wp2_with fail
      refine (CA.out _ S.out).mono ?_
      rintro e w5 ⟨rfl, h5⟩
      have S := Lib.hid (S.out.below h5)
      clear h5 t0 t1 t2 t3 t4
      obtain ⟨t0, t1, t2, t3, t4, _⟩ := S.out.out
      go_wp2_with fail
      refine (CB.out _ S.out).mono ?_
      rintro e w6 ⟨rfl, h6⟩
      have S := Lib.hid (S.out.below h6)
      clear h6 t0 t1 t2 t3 t4
      obtain ⟨t0, t1, t2, t3, t4, _⟩ := S.out.out
      go_wp2_with fail
      go_quiet (fail)
      go_wp2_with fail
      refine (C3.out _ (S.out.below (below_drewN (Below.refl _ _) _))).mono ?_
      rintro e w13 ⟨v, ls, d3, rfl, r3, h13, hf⟩
      obtain ⟨Z, nz, cz, rfl⟩ := r3.slice
      have ba := (Below.refl w13.heap.size w13).alloc (Nat.le_refl _) (.cells #[.slice Z nz cz, .slice none 0 0] 25)
      have S := Lib.hid (((S.out.below (below_drewN (Below.refl _ _) _)).below h13).below ba)
      have T3_ := Lib.hid (Two.new (W := w13) (x := .slice Z nz cz) (y := .slice none 0 0) 25)
      have R3 := Lib.hid (r3.later ba)
      have HF := Lib.hid hf
      clear h13 hf r3 ba t0 t1 t2 t3 t4 C3
      have hwr : IntKind.i64.wrap (mn - by_) = mn - by_ := IntWalk.i64_in _ (by omega)
      have hs : d3 ≠ 0 ∨ (d3 = 0 ∧ mn - by_ < 0) ∨ (d3 = 0 ∧ ¬ mn - by_ < 0 ∧ 1048576 < mn - by_) ∨ (d3 = 0 ∧ ¬ mn - by_ < 0 ∧ mn - by_ ≤ 1048576) := by omega
      rcases hs with a1 | ⟨rfl, a1⟩ | ⟨rfl, a1, a2⟩ | ⟨rfl, a1, a2⟩
      · have hb0 : (d3 != 0) = true := by rw [bne_iff_ne]; exact a1
        clear a1
        go_wp2_with fail
        refine (HS.out _).mono ?_
        rintro e w14 ⟨rfl, h14⟩
        have S := Lib.hid (S.out.below h14)
        clear h14
        go_wp2_with fail
        go_ret
        exact ⟨rfl, S.out.bel⟩
      · go_wp2_with fail
        refine (HS.out _).mono ?_
        rintro e w14 ⟨rfl, h14⟩
        have S := Lib.hid (S.out.below h14)
        clear h14
        go_wp2_with fail
        go_ret
        exact ⟨rfl, S.out.bel⟩
      · go_wp2_with fail
        refine (HS.out _).mono ?_
        rintro e w14 ⟨rfl, h14⟩
        have S := Lib.hid (S.out.below h14)
        clear h14
        go_wp2_with fail
        go_ret
        exact ⟨rfl, S.out.bel⟩
      · obtain ⟨hc0, hcl, hv⟩ := HF.out.good HA.out rfl mn ⟨by omega, by omega⟩ ⟨by omega, by omega⟩
        have I0 : In12 w (.slice A k c) (.slice A' k' c') (.slice B l d) (.slice B' l' d') w13.heap.size (.slice Z nz cz) (.slice none 0 0) ls (w13.alloc (.cells #[.slice Z nz cz, .slice none 0 0] 25)) := ⟨S.out, T3_.out, rm_of R3.out⟩
        have HSI := Lib.hid fun W (_ : In12 w (.slice A k c) (.slice A' k' c') (.slice B l d) (.slice B' l' d') w13.heap.size (.slice Z nz cz) (.slice none 0 0) ls W) => HS.out W
        have Gs := Lib.hid fun W (S : In12 w (.slice A k c) (.slice A' k' c') (.slice B l d) (.slice B' l' d') w13.heap.size (.slice Z nz cz) (.slice none 0 0) ls W) => has_any Z none nz cz 0 0 ls [] mn W S.2.2 hcl
        have Gt := Lib.hid fun W (S : In12 w (.slice A k c) (.slice A' k' c') (.slice B l d) (.slice B' l' d') w13.heap.size (.slice Z nz cz) (.slice none 0 0) ls W) => has_any A A' k c k' c' ta sa (mn - by_) W (H.out.up S.1.siz S.1.bel) (HA.out.unique0 hc0)
        rw [hv] at Gs
        generalize hasV ta sa (mn - by_) = gam at Gs Gt
        clear hv hcl hc0 HF
        have HI := Lib.hid I0
        clear I0
        go_wp2_with fail
        refine wp_region_held_drew (S := In12 w (.slice A k c) (.slice A' k' c') (.slice B l d) (.slice B' l' d') w13.heap.size (.slice Z nz cz) (.slice none 0 0) ls) (by kernel_rfl) (HI.out.below (Below.refl _ _).drew) (fun I0 => ?_)
        refine wpAnyH_ready (rs := [0]) (by kernel_rfl) (by simp) ?_
        refine AllReadyH.cons rfl (fun K hK => ?_) AllReadyH.nil
        go_simp
        refine (HSI.out _ I0).mono ?_
        rintro e w15 ⟨rfl, hb15⟩
        have I15 := I0.below hb15
        clear hb15
        refine hK.out _ _ I15 (fun _ => ?_)
        clear hK K
        try simp only [Act.put, List.setIfInBounds_toArray, List.set_cons_zero, List.set_cons_succ]
        refine takeW (i := 1) (d := some 117) (v := ?_) rfl rfl (by kernel_rfl) (by kernel_rfl) (by kernel_rfl) (fun _ _ _ h => h) (by rfl) ?_ I15 ?_
        rotate_left
        · (intro w' hSw; obtain ⟨q0, q1, q2, q3⟩ := hSw.cells; go_simp; try with_reducible rfl)
        try simp only [Act.put, List.setIfInBounds_toArray, List.set_cons_zero, List.set_cons_succ]
        refine takeW (i := 2) (d := some 118) (v := ?_) rfl rfl (by kernel_rfl) (by kernel_rfl) (by kernel_rfl) (fun _ _ _ h => h) (by rfl) ?_ I15 ?_
        rotate_left
        · (intro w' hSw; obtain ⟨q0, q1, q2, q3⟩ := hSw.cells; go_simp; try with_reducible rfl)
        try simp only [Act.put, List.setIfInBounds_toArray, List.set_cons_zero, List.set_cons_succ]
        refine takeW (i := 3) (d := some 119) (v := ?_) rfl rfl (by kernel_rfl) (by kernel_rfl) (by kernel_rfl) (fun _ _ _ h => h) (by rfl) ?_ I15 ?_
        rotate_left
        · (intro w' hSw; obtain ⟨q0, q1, q2, q3⟩ := hSw.cells; go_simp; try with_reducible rfl)
        try simp only [Act.put, List.setIfInBounds_toArray, List.set_cons_zero, List.set_cons_succ]
        refine takeW (i := 5) (d := some 121) (v := ?_) rfl rfl (by kernel_rfl) (by kernel_rfl) (by kernel_rfl) (fun _ _ _ h => h) (by rfl) ?_ I15 ?_
        rotate_left
        · (intro w' hSw; obtain ⟨q0, q1, q2, q3⟩ := hSw.cells; go_simp; try with_reducible rfl)
        try simp only [Act.put, List.setIfInBounds_toArray, List.set_cons_zero, List.set_cons_succ]
        refine takeW (i := 6) (d := some 122) (v := ?_) rfl rfl (by kernel_rfl) (by kernel_rfl) (by kernel_rfl) (fun _ _ _ h => h) (by rfl) ?_ I15 ?_
        rotate_left
        · (intro w' hSw; obtain ⟨q0, q1, q2, q3⟩ := hSw.cells; go_simp; try with_reducible rfl)
        try simp only [Act.put, List.setIfInBounds_toArray, List.set_cons_zero, List.set_cons_succ]
        refine takeW (i := 7) (d := some 123) (v := ?_) rfl rfl (by kernel_rfl) (by kernel_rfl) (by kernel_rfl) (fun _ _ _ h => h) (by rfl) ?_ I15 ?_
        rotate_left
        · (intro w' hSw; obtain ⟨q0, q1, q2, q3⟩ := hSw.cells; go_simp; try with_reducible rfl)
        try simp only [Act.put, List.setIfInBounds_toArray, List.set_cons_zero, List.set_cons_succ]
        refine takeW (i := 8) (d := some 124) (v := ?_) rfl rfl (by kernel_rfl) (by kernel_rfl) (by kernel_rfl) (fun _ _ _ h => h) (by rfl) ?_ I15 ?_
        rotate_left
        · (intro w' hSw; obtain ⟨q0, q1, q2, q3⟩ := hSw.cells; go_simp; try with_reducible rfl)
        try simp only [Act.put, List.setIfInBounds_toArray, List.set_cons_zero, List.set_cons_succ]
        refine wpAnyH_ready (rs := [4]) (by kernel_rfl) (by simp) ?_
        refine AllReadyH.cons rfl (fun K hK => ?_) AllReadyH.nil
        go_simp
        refine (Gs.out _ I15).mono ?_
        rintro e w16 ⟨rfl, hb16⟩
        have I16 := I15.below hb16
        clear hb16
        refine hK.out _ _ I16 (fun _ => ?_)
        clear hK K
        try simp only [Act.put, List.setIfInBounds_toArray, List.set_cons_zero, List.set_cons_succ]
        refine wpAnyH_ready (rs := [9]) (by kernel_rfl) (by simp) ?_
        refine AllReadyH.cons rfl (fun K hK => ?_) AllReadyH.nil
        go_simp
        refine (Gt.out _ I16).mono ?_
        rintro e w17 ⟨rfl, hb17⟩
        have I17 := I16.below hb17
        clear hb17
        refine hK.out _ _ I17 (fun _ => ?_)
        clear hK K
        try simp only [Act.put, List.setIfInBounds_toArray, List.set_cons_zero, List.set_cons_succ]
        refine takeW (i := 10) (d := some 126) (v := ?_) rfl rfl (by kernel_rfl) (by kernel_rfl) (by kernel_rfl) (fun _ _ _ h => h) (by rfl) ?_ I17 ?_
        rotate_left
        · (intro w' hSw; obtain ⟨q0, q1, q2, q3⟩ := hSw.cells; go_simp; try with_reducible rfl)
        try simp only [Act.put, List.setIfInBounds_toArray, List.set_cons_zero, List.set_cons_succ]
        refine takeW (i := 11) (d := some 127) (v := ?_) rfl rfl (by kernel_rfl) (by kernel_rfl) (by kernel_rfl) (fun _ _ _ h => h) (by rfl) ?_ I17 ?_
        rotate_left
        · (intro w' hSw; obtain ⟨q0, q1, q2, q3⟩ := hSw.cells; go_simp; try with_reducible rfl)
        try simp only [Act.put, List.setIfInBounds_toArray, List.set_cons_zero, List.set_cons_succ]
        refine takeW (i := 12) (d := some 8) (v := ?_) rfl rfl (by kernel_rfl) (by kernel_rfl) (by kernel_rfl) (fun _ _ _ h => h) (by rfl) ?_ I17 ?_
        rotate_left
        · (intro w' hSw; obtain ⟨q0, q1, q2, q3⟩ := hSw.cells; go_simp; try with_reducible rfl)
        try simp only [Act.put, List.setIfInBounds_toArray, List.set_cons_zero, List.set_cons_succ]
        refine wpAnyH_done (by kernel_rfl) ?_ _
        go_wp2_with fail
        go_ret
        exact ⟨by cases gam <;> rfl, I17.1.bel⟩
    · have hl0 : (ck == 0) = false := by rw [beq_eq_false_iff_ne]; exact hk0
      clear h0 hk0
      go_wp2_with fail
      refine (CA.out _ S.out).mono ?_
      rintro e w5 ⟨rfl, h5⟩
      have S := Lib.hid (S.out.below h5)
      clear h5 t0 t1 t2 t3 t4
      obtain ⟨t0, t1, t2, t3, t4, _⟩ := S.out.out
      go_wp2_with fail
      go_quiet (fail)
      go_wp2_with fail
      refine (C3.out _ (S.out.below (below_drewN (Below.refl _ _) _))).mono ?_
      rintro e w13 ⟨v, ls, d3, rfl, r3, h13, hf⟩
      obtain ⟨Z, nz, cz, rfl⟩ := r3.slice
      have ba := (Below.refl w13.heap.size w13).alloc (Nat.le_refl _) (.cells #[.slice Z nz cz, .slice none 0 0] 25)
      have S := Lib.hid (((S.out.below (below_drewN (Below.refl _ _) _)).below h13).below ba)
      have T3_ := Lib.hid (Two.new (W := w13) (x := .slice Z nz cz) (y := .slice none 0 0) 25)
      have R3 := Lib.hid (r3.later ba)
      have HF := Lib.hid hf
      clear h13 hf r3 ba t0 t1 t2 t3 t4 C3
      have hwr : IntKind.i64.wrap (mn - by_) = mn - by_ := IntWalk.i64_in _ (by omega)
      have hs : d3 ≠ 0 ∨ (d3 = 0 ∧ mn - by_ < 0) ∨ (d3 = 0 ∧ ¬ mn - by_ < 0 ∧ 1048576 < mn - by_) ∨ (d3 = 0 ∧ ¬ mn - by_ < 0 ∧ mn - by_ ≤ 1048576) := by omega
      rcases hs with a1 | ⟨rfl, a1⟩ | ⟨rfl, a1, a2⟩ | ⟨rfl, a1, a2⟩
      · have hb0 : (d3 != 0) = true := by rw [bne_iff_ne]; exact a1
        clear a1
        go_wp2_with fail
        refine (HS.out _).mono ?_
        rintro e w14 ⟨rfl, h14⟩
        have S := Lib.hid (S.out.below h14)
        clear h14
        go_wp2_with fail
        go_ret
        exact ⟨rfl, S.out.bel⟩
      · go_wp2_with fail
        refine (HS.out _).mono ?_
        rintro e w14 ⟨rfl, h14⟩
        have S := Lib.hid (S.out.below h14)
        clear h14
        go_wp2_with fail
        go_ret
        exact ⟨rfl, S.out.bel⟩
      · go_wp2_with fail
        refine (HS.out _).mono ?_
        rintro e w14 ⟨rfl, h14⟩
        have S := Lib.hid (S.out.below h14)
        clear h14
        go_wp2_with fail
        go_ret
        exact ⟨rfl, S.out.bel⟩
      · obtain ⟨hc0, hcl, hv⟩ := HF.out.good HA.out rfl mn ⟨by omega, by omega⟩ ⟨by omega, by omega⟩
        have I0 : In12 w (.slice A k c) (.slice A' k' c') (.slice B l d) (.slice B' l' d') w13.heap.size (.slice Z nz cz) (.slice none 0 0) ls (w13.alloc (.cells #[.slice Z nz cz, .slice none 0 0] 25)) := ⟨S.out, T3_.out, rm_of R3.out⟩
        have HSI := Lib.hid fun W (_ : In12 w (.slice A k c) (.slice A' k' c') (.slice B l d) (.slice B' l' d') w13.heap.size (.slice Z nz cz) (.slice none 0 0) ls W) => HS.out W
        have Gs := Lib.hid fun W (S : In12 w (.slice A k c) (.slice A' k' c') (.slice B l d) (.slice B' l' d') w13.heap.size (.slice Z nz cz) (.slice none 0 0) ls W) => has_any Z none nz cz 0 0 ls [] mn W S.2.2 hcl
        have Gt := Lib.hid fun W (S : In12 w (.slice A k c) (.slice A' k' c') (.slice B l d) (.slice B' l' d') w13.heap.size (.slice Z nz cz) (.slice none 0 0) ls W) => has_any A A' k c k' c' ta sa (mn - by_) W (H.out.up S.1.siz S.1.bel) (HA.out.unique0 hc0)
        rw [hv] at Gs
        generalize hasV ta sa (mn - by_) = gam at Gs Gt
        clear hv hcl hc0 HF
        have HI := Lib.hid I0
        clear I0
        go_wp2_with fail
        refine wp_region_held_drew (S := In12 w (.slice A k c) (.slice A' k' c') (.slice B l d) (.slice B' l' d') w13.heap.size (.slice Z nz cz) (.slice none 0 0) ls) (by kernel_rfl) (HI.out.below (Below.refl _ _).drew) (fun I0 => ?_)
        refine wpAnyH_ready (rs := [0]) (by kernel_rfl) (by simp) ?_
        refine AllReadyH.cons rfl (fun K hK => ?_) AllReadyH.nil
        go_simp
        refine (HSI.out _ I0).mono ?_
        rintro e w15 ⟨rfl, hb15⟩
        have I15 := I0.below hb15
        clear hb15
        refine hK.out _ _ I15 (fun _ => ?_)
        clear hK K
        try simp only [Act.put, List.setIfInBounds_toArray, List.set_cons_zero, List.set_cons_succ]
        refine takeW (i := 1) (d := some 117) (v := ?_) rfl rfl (by kernel_rfl) (by kernel_rfl) (by kernel_rfl) (fun _ _ _ h => h) (by rfl) ?_ I15 ?_
        rotate_left
        · (intro w' hSw; obtain ⟨q0, q1, q2, q3⟩ := hSw.cells; go_simp; try with_reducible rfl)
        try simp only [Act.put, List.setIfInBounds_toArray, List.set_cons_zero, List.set_cons_succ]
        refine takeW (i := 2) (d := some 118) (v := ?_) rfl rfl (by kernel_rfl) (by kernel_rfl) (by kernel_rfl) (fun _ _ _ h => h) (by rfl) ?_ I15 ?_
        rotate_left
        · (intro w' hSw; obtain ⟨q0, q1, q2, q3⟩ := hSw.cells; go_simp; try with_reducible rfl)
        try simp only [Act.put, List.setIfInBounds_toArray, List.set_cons_zero, List.set_cons_succ]
        refine takeW (i := 3) (d := some 119) (v := ?_) rfl rfl (by kernel_rfl) (by kernel_rfl) (by kernel_rfl) (fun _ _ _ h => h) (by rfl) ?_ I15 ?_
        rotate_left
        · (intro w' hSw; obtain ⟨q0, q1, q2, q3⟩ := hSw.cells; go_simp; try with_reducible rfl)
        try simp only [Act.put, List.setIfInBounds_toArray, List.set_cons_zero, List.set_cons_succ]
        refine takeW (i := 5) (d := some 121) (v := ?_) rfl rfl (by kernel_rfl) (by kernel_rfl) (by kernel_rfl) (fun _ _ _ h => h) (by rfl) ?_ I15 ?_
        rotate_left
        · (intro w' hSw; obtain ⟨q0, q1, q2, q3⟩ := hSw.cells; go_simp; try with_reducible rfl)
        try simp only [Act.put, List.setIfInBounds_toArray, List.set_cons_zero, List.set_cons_succ]
        refine takeW (i := 6) (d := some 122) (v := ?_) rfl rfl (by kernel_rfl) (by kernel_rfl) (by kernel_rfl) (fun _ _ _ h => h) (by rfl) ?_ I15 ?_
        rotate_left
        · (intro w' hSw; obtain ⟨q0, q1, q2, q3⟩ := hSw.cells; go_simp; try with_reducible rfl)
        try simp only [Act.put, List.setIfInBounds_toArray, List.set_cons_zero, List.set_cons_succ]
        refine takeW (i := 7) (d := some 123) (v := ?_) rfl rfl (by kernel_rfl) (by kernel_rfl) (by kernel_rfl) (fun _ _ _ h => h) (by rfl) ?_ I15 ?_
        rotate_left
        · (intro w' hSw; obtain ⟨q0, q1, q2, q3⟩ := hSw.cells; go_simp; try with_reducible rfl)
        try simp only [Act.put, List.setIfInBounds_toArray, List.set_cons_zero, List.set_cons_succ]
        refine takeW (i := 8) (d := some 124) (v := ?_) rfl rfl (by kernel_rfl) (by kernel_rfl) (by kernel_rfl) (fun _ _ _ h => h) (by rfl) ?_ I15 ?_
        rotate_left
        · (intro w' hSw; obtain ⟨q0, q1, q2, q3⟩ := hSw.cells; go_simp; try with_reducible rfl)
        try simp only [Act.put, List.setIfInBounds_toArray, List.set_cons_zero, List.set_cons_succ]
        refine wpAnyH_ready (rs := [4]) (by kernel_rfl) (by simp) ?_
        refine AllReadyH.cons rfl (fun K hK => ?_) AllReadyH.nil
        go_simp
        refine (Gs.out _ I15).mono ?_
        rintro e w16 ⟨rfl, hb16⟩
        have I16 := I15.below hb16
        clear hb16
        refine hK.out _ _ I16 (fun _ => ?_)
        clear hK K
        try simp only [Act.put, List.setIfInBounds_toArray, List.set_cons_zero, List.set_cons_succ]
        refine wpAnyH_ready (rs := [9]) (by kernel_rfl) (by simp) ?_
        refine AllReadyH.cons rfl (fun K hK => ?_) AllReadyH.nil
        go_simp
        refine (Gt.out _ I16).mono ?_
        rintro e w17 ⟨rfl, hb17⟩
        have I17 := I16.below hb17
        clear hb17
        refine hK.out _ _ I17 (fun _ => ?_)
        clear hK K
        try simp only [Act.put, List.setIfInBounds_toArray, List.set_cons_zero, List.set_cons_succ]
        refine takeW (i := 10) (d := some 126) (v := ?_) rfl rfl (by kernel_rfl) (by kernel_rfl) (by kernel_rfl) (fun _ _ _ h => h) (by rfl) ?_ I17 ?_
        rotate_left
        · (intro w' hSw; obtain ⟨q0, q1, q2, q3⟩ := hSw.cells; go_simp; try with_reducible rfl)
        try simp only [Act.put, List.setIfInBounds_toArray, List.set_cons_zero, List.set_cons_succ]
        refine takeW (i := 11) (d := some 127) (v := ?_) rfl rfl (by kernel_rfl) (by kernel_rfl) (by kernel_rfl) (fun _ _ _ h => h) (by rfl) ?_ I17 ?_
        rotate_left
        · (intro w' hSw; obtain ⟨q0, q1, q2, q3⟩ := hSw.cells; go_simp; try with_reducible rfl)
        try simp only [Act.put, List.setIfInBounds_toArray, List.set_cons_zero, List.set_cons_succ]
        refine takeW (i := 12) (d := some 8) (v := ?_) rfl rfl (by kernel_rfl) (by kernel_rfl) (by kernel_rfl) (fun _ _ _ h => h) (by rfl) ?_ I17 ?_
        rotate_left
        · (intro w' hSw; obtain ⟨q0, q1, q2, q3⟩ := hSw.cells; go_simp; try with_reducible rfl)
        try simp only [Act.put, List.setIfInBounds_toArray, List.set_cons_zero, List.set_cons_succ]
        refine wpAnyH_done (by kernel_rfl) ?_ _
        go_wp2_with fail
        go_ret
        exact ⟨by cases gam <;> rfl, I17.1.bel⟩
end Go.Proofs.YtcdodfehnkgjdaaGreatDoor

/- The law TurnJoins, joined. -/
namespace Go.Proofs.YtcdodfehnkgjdaaGreatDoor
open Go.RowKit
theorem turnJoins_calls (hsan : ∀ W, Calls Tryz.prog 5 #[] W fun e w' => e = .returned (.bool true) ∧ Below W.heap.size W w') (A : Option Addr) (k c : Nat) (A' : Option Addr) (k' c' : Nat) (B : Option Addr) (l d : Nat) (B' : Option Addr) (l' d' : Nat) (by_ mn : Int) (w : World) (ho : k ≤ 1000000000000 → k' ≤ 1000000000000 → ∃ ts ss, RM w.heap.size (.agg #[.slice A k c, .slice A' k' c']) ts ss w)
    (ho' : l ≤ 1000000000000 → l' ≤ 1000000000000 → ∃ ts ss, RM w.heap.size (.agg #[.slice B l d, .slice B' l' d']) ts ss w) (_ : -9223372036854775808 ≤ by_) (_ : by_ ≤ 9223372036854775807) (_ : -9223372036854775808 ≤ mn) (_ : mn ≤ 9223372036854775807) :
    Calls Tryz.prog 4 #[.agg #[.slice A k c, .slice A' k' c'], .agg #[.slice B l d, .slice B' l' d'], .int .i64 by_, .int .i64 mn] w fun e w' => e = .returned (.bool true) ∧ Below w.heap.size w w' := by
  cases f1 : fewB k k' with
  | false => exact joins_no hsan A A' B B' k c k' c' l d l' d' by_ mn w (.inl f1)
  | true =>
    cases f2 : fewB l l' with
    | false => exact joins_no hsan A A' B B' k c k' c' l d l' d' by_ mn w (.inr (.inl ⟨f1, f2⟩))
    | true =>
      by_cases hm : mn < 0 ∨ 1048576 < mn ∨ by_ < -1048576 ∨ 1048576 < by_
      · exact joins_no hsan A A' B B' k c k' c' l d l' d' by_ mn w (.inr (.inr ⟨f1, f2, hm⟩))
      · have hk : k ≤ 30 ∧ k' ≤ 50 := by
          simp only [fewB, Bool.and_eq_true, Bool.or_eq_true, decide_eq_true_eq] at f1
          omega
        have hl : l ≤ 30 ∧ l' ≤ 50 := by
          simp only [fewB, Bool.and_eq_true, Bool.or_eq_true, decide_eq_true_eq] at f2
          omega
        obtain ⟨ta, sa, h⟩ := ho (by omega) (by omega)
        obtain ⟨tb, sb, h'⟩ := ho' (by omega) (by omega)
        obtain ⟨ck, hck⟩ := CheckIs.exists_ ta sa
        obtain ⟨cl, hcl⟩ := CheckIs.exists_ tb sb
        by_cases h0 : ck ≠ 0 ∨ cl ≠ 0
        · exact joins_bad hsan A A' B B' k c k' c' l d l' d' by_ mn ta tb sa sb ck cl w h h' f1 f2 (by omega) (by omega) (by omega) (by omega) hck hcl h0
        · obtain rfl : ck = 0 := Classical.byContradiction fun h => h0 (.inl h)
          obtain rfl : cl = 0 := Classical.byContradiction fun h => h0 (.inr h)
          cases ha : hasV ta sa mn with
          | true => exact joins_t hsan A A' B B' k c k' c' l d l' d' by_ mn ta tb sa sb w h h' f1 f2 (by omega) (by omega) (by omega) (by omega) hck hcl ha
          | false =>
            cases hb : hasV tb sb mn with
            | true => exact joins_ft hsan A A' B B' k c k' c' l d l' d' by_ mn ta tb sa sb w h h' f1 f2 (by omega) (by omega) (by omega) (by omega) hck hcl ha hb
            | false => exact joins_ff hsan A A' B B' k c k' c' l d l' d' by_ mn ta tb sa sb w h h' f1 f2 (by omega) (by omega) (by omega) (by omega) hck hcl ha hb
end Go.Proofs.YtcdodfehnkgjdaaGreatDoor
