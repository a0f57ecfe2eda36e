/- The law TurnJoins, where both sets are right and none has the minute. -/
import Derived.Test.YtcdodfehnkgjdaaGreatDoorLI
namespace Go.Proofs.YtcdodfehnkgjdaaGreatDoor
open Go.RowKit

set_option maxHeartbeats 16000000 in
set_option maxRecDepth 100000 in
theorem joins_ff (hsan : ∀ W, Calls Tryz.prog 5 #[] W fun e w' => e = .returned (.bool true) ∧ Below W.heap.size W w') (A A' B B' : Option Addr) (k c k' c' l d l' d' : Nat) (by_ mn : Int) (ta tb : List T3) (sa sb : List S2) (w : World)
    (h : RM w.heap.size (.agg #[.slice A k c, .slice A' k' c']) ta sa w) (h' : RM w.heap.size (.agg #[.slice B l d, .slice B' l' d']) tb sb w) (f1 : fewB k k' = true) (f2 : fewB l l' = true)
    (m1 : ¬ mn < 0) (m2 : mn ≤ 1048576) (b1 : ¬ by_ < -1048576) (b2 : by_ ≤ 1048576) (hck : CheckIs ta sa 0) (hcl : CheckIs tb sb 0) (ha : hasV ta sa mn = false) (hb : hasV tb sb mn = false) :
    Calls Tryz.prog 4 #[.agg #[.slice A k c, .slice A' k' c'], .agg #[.slice B l d, .slice B' l' d'], .int .i64 by_, .int .i64 mn] w fun e w' => e = .returned (.bool true) ∧ Below w.heap.size w w' := by
  have HS := Lib.hid hsan
  have S0 := Lib.hid (N2d.new (w := w) (v0 := .slice A k c) (v1 := .slice A' k' c') (u0 := .slice B l d) (u1 := .slice B' l' d') 25 25)
  have F := Lib.hid fun W => few_any A A' k c k' c' W
  have F' := Lib.hid fun W => few_any B B' l d l' d' W
  rw [f1] at F
  rw [f2] at F'
  have C1 := Lib.hid fun W (S : N2d w (.slice A k c) (.slice A' k' c') (.slice B l d) (.slice B' l' d') W) => union_any A A' B B' k c k' c' l d l' d' ta tb sa sb 0 0 W (h.up S.siz S.bel) (h'.up S.siz S.bel) hck hcl
  have C2 := Lib.hid fun W (S : N2d w (.slice A k c) (.slice A' k' c') (.slice B l d) (.slice B' l' d') W) => union_any B B' A A' l d l' d' k c k' c' tb ta sb sa 0 0 W (h'.up S.siz S.bel) (h.up S.siz S.bel) hcl hck
  have C3 := Lib.hid fun W (S : N2d w (.slice A k c) (.slice A' k' c') (.slice B l d) (.slice B' l' d') W) => shift_any A A' k c k' c' ta sa by_ 0 W (h.up S.siz S.bel) hck
  have H := Lib.hid h
  have H' := Lib.hid h'
  have HA := Lib.hid hck
  have HB := Lib.hid hcl
  clear hsan h h' hck hcl f1 f2
  go_enter Tryz.func4, Tryz.ntmps4
  go_wp2_with fail
  refine (F.out _).mono ?_
  rintro e w1 ⟨rfl, h1⟩
  have S := Lib.hid (S0.out.below h1)
  clear h1 S0
  obtain ⟨t0, t1, t2, t3, t4, _⟩ := S.out.out
  go_wp2_with fail
  refine (F'.out _).mono ?_
  rintro e w2 ⟨rfl, h2⟩
  have S := Lib.hid (S.out.below h2)
  clear h2 t0 t1 t2 t3 t4
  obtain ⟨t0, t1, t2, t3, t4, _⟩ := S.out.out
  go_wp2_with fail
  refine (C1.out _ S.out).mono ?_
  rintro e w3 ⟨v, u, tu, su, d1, rfl, r1, q1, h3, hu⟩
  obtain ⟨X, nx, cx, rfl⟩ := r1.slice
  obtain ⟨X', nx', cx', rfl⟩ := q1.slice
  have ba := (Below.refl w3.heap.size w3).alloc (Nat.le_refl _) (.cells #[.slice X nx cx, .slice X' nx' cx'] 25)
  have S := Lib.hid ((S.out.below h3).below ba)
  have T1 := Lib.hid (Two.new (W := w3) (x := .slice X nx cx) (y := .slice X' nx' cx') 25)
  have R1 := Lib.hid (r1.later ba)
  have Q1 := Lib.hid (q1.later ba)
  have HU := Lib.hid hu
  clear h3 hu r1 q1 ba t0 t1 t2 t3 t4 C1
  obtain ⟨t0, t1, t2, t3, t4, _⟩ := S.out.out
  go_wp2_with fail
  refine (C2.out _ S.out).mono ?_
  rintro e w4 ⟨v, u, tv, sv, d2, rfl, r2, q2, h4, hv⟩
  obtain ⟨Y, ny, cy, rfl⟩ := r2.slice
  obtain ⟨Y', ny', cy', rfl⟩ := q2.slice
  have ba := (Below.refl w4.heap.size w4).alloc (Nat.le_refl _) (.cells #[.slice Y ny cy, .slice Y' ny' cy'] 25)
  have S := Lib.hid ((S.out.below h4).below ba)
  have T1 := Lib.hid ((T1.out.below h4).below ba)
  have T2 := Lib.hid (Two.new (W := w4) (x := .slice Y ny cy) (y := .slice Y' ny' cy') 25)
  have R1 := Lib.hid ((R1.out.later h4).later ba)
  have Q1 := Lib.hid ((Q1.out.later h4).later ba)
  have R2 := Lib.hid (r2.later ba)
  have Q2 := Lib.hid (q2.later ba)
  have HV := Lib.hid hv
  clear h4 hv r2 q2 ba t0 t1 t2 t3 t4 C2
  obtain ⟨e12, hd⟩ := HU.out.ways HV.out
  subst e12
  rcases hd with rfl | ⟨rfl, hgu, hgv⟩
  · clear T1 T2 R1 Q1 R2 Q2 HU HV
    obtain ⟨t0, t1, t2, t3, t4, _⟩ := S.out.out
    go_wp2_with fail
    go_quiet (fail)
    go_wp2_with fail
    refine (C3.out _ (S.out.below (below_drewN (Below.refl _ _) _))).mono ?_
    rintro e w13 ⟨v, ls, d3, rfl, r3, h13, hf⟩
    obtain ⟨Z, nz, cz, rfl⟩ := r3.slice
    have ba := (Below.refl w13.heap.size w13).alloc (Nat.le_refl _) (.cells #[.slice Z nz cz, .slice none 0 0] 25)
    have S := Lib.hid (((S.out.below (below_drewN (Below.refl _ _) _)).below h13).below ba)
    have T3_ := Lib.hid (Two.new (W := w13) (x := .slice Z nz cz) (y := .slice none 0 0) 25)
    have R3 := Lib.hid (r3.later ba)
    have HF := Lib.hid hf
    clear h13 hf r3 ba t0 t1 t2 t3 t4 C3
    have hwr : IntKind.i64.wrap (mn - by_) = mn - by_ := IntWalk.i64_in _ (by omega)
    have hs : d3 ≠ 0 ∨ (d3 = 0 ∧ mn - by_ < 0) ∨ (d3 = 0 ∧ ¬ mn - by_ < 0 ∧ 1048576 < mn - by_) ∨ (d3 = 0 ∧ ¬ mn - by_ < 0 ∧ mn - by_ ≤ 1048576) := by omega
    rcases hs with a1 | ⟨rfl, a1⟩ | ⟨rfl, a1, a2⟩ | ⟨rfl, a1, a2⟩
    · have hb0 : (d3 != 0) = true := by rw [bne_iff_ne]; exact a1
      clear a1
      go_wp2_with fail
      refine (HS.out _).mono ?_
      rintro e w14 ⟨rfl, h14⟩
      have S := Lib.hid (S.out.below h14)
      clear h14
      go_wp2_with fail
      go_ret
      exact ⟨rfl, S.out.bel⟩
    · go_wp2_with fail
      refine (HS.out _).mono ?_
      rintro e w14 ⟨rfl, h14⟩
      have S := Lib.hid (S.out.below h14)
      clear h14
      go_wp2_with fail
      go_ret
      exact ⟨rfl, S.out.bel⟩
    · go_wp2_with fail
      refine (HS.out _).mono ?_
      rintro e w14 ⟨rfl, h14⟩
      have S := Lib.hid (S.out.below h14)
      clear h14
      go_wp2_with fail
      go_ret
      exact ⟨rfl, S.out.bel⟩
    · obtain ⟨hc0, hcl, hv⟩ := HF.out.good HA.out rfl mn ⟨by omega, by omega⟩ ⟨by omega, by omega⟩
      have I0 : In12 w (.slice A k c) (.slice A' k' c') (.slice B l d) (.slice B' l' d') w13.heap.size (.slice Z nz cz) (.slice none 0 0) ls (w13.alloc (.cells #[.slice Z nz cz, .slice none 0 0] 25)) := ⟨S.out, T3_.out, rm_of R3.out⟩
      have HSI := Lib.hid fun W (_ : In12 w (.slice A k c) (.slice A' k' c') (.slice B l d) (.slice B' l' d') w13.heap.size (.slice Z nz cz) (.slice none 0 0) ls W) => HS.out W
      have Gs := Lib.hid fun W (S : In12 w (.slice A k c) (.slice A' k' c') (.slice B l d) (.slice B' l' d') w13.heap.size (.slice Z nz cz) (.slice none 0 0) ls W) => has_any Z none nz cz 0 0 ls [] mn W S.2.2 hcl
      have Gt := Lib.hid fun W (S : In12 w (.slice A k c) (.slice A' k' c') (.slice B l d) (.slice B' l' d') w13.heap.size (.slice Z nz cz) (.slice none 0 0) ls W) => has_any A A' k c k' c' ta sa (mn - by_) W (H.out.up S.1.siz S.1.bel) (HA.out.unique0 hc0)
      rw [hv] at Gs
      generalize hasV ta sa (mn - by_) = gam at Gs Gt
      clear hv hcl hc0 HF
      have HI := Lib.hid I0
      clear I0
      go_wp2_with fail
      refine wp_region_held_drew (S := In12 w (.slice A k c) (.slice A' k' c') (.slice B l d) (.slice B' l' d') w13.heap.size (.slice Z nz cz) (.slice none 0 0) ls) (by kernel_rfl) (HI.out.below (Below.refl _ _).drew) (fun I0 => ?_)
      refine wpAnyH_ready (rs := [0]) (by kernel_rfl) (by simp) ?_
      refine AllReadyH.cons rfl (fun K hK => ?_) AllReadyH.nil
      go_simp
      refine (HSI.out _ I0).mono ?_
      rintro e w15 ⟨rfl, hb15⟩
      have I15 := I0.below hb15
      clear hb15
      refine hK.out _ _ I15 (fun _ => ?_)
      clear hK K
      try simp only [Act.put, List.setIfInBounds_toArray, List.set_cons_zero, List.set_cons_succ]
      refine takeW (i := 1) (d := some 117) (v := ?_) rfl rfl (by kernel_rfl) (by kernel_rfl) (by kernel_rfl) (fun _ _ _ h => h) (by rfl) ?_ I15 ?_
      rotate_left
      · (intro w' hSw; obtain ⟨q0, q1, q2, q3⟩ := hSw.cells; go_simp; try with_reducible rfl)
      try simp only [Act.put, List.setIfInBounds_toArray, List.set_cons_zero, List.set_cons_succ]
      refine takeW (i := 2) (d := some 118) (v := ?_) rfl rfl (by kernel_rfl) (by kernel_rfl) (by kernel_rfl) (fun _ _ _ h => h) (by rfl) ?_ I15 ?_
      rotate_left
      · (intro w' hSw; obtain ⟨q0, q1, q2, q3⟩ := hSw.cells; go_simp; try with_reducible rfl)
      try simp only [Act.put, List.setIfInBounds_toArray, List.set_cons_zero, List.set_cons_succ]
      refine takeW (i := 3) (d := some 119) (v := ?_) rfl rfl (by kernel_rfl) (by kernel_rfl) (by kernel_rfl) (fun _ _ _ h => h) (by rfl) ?_ I15 ?_
      rotate_left
      · (intro w' hSw; obtain ⟨q0, q1, q2, q3⟩ := hSw.cells; go_simp; try with_reducible rfl)
      try simp only [Act.put, List.setIfInBounds_toArray, List.set_cons_zero, List.set_cons_succ]
      refine takeW (i := 5) (d := some 121) (v := ?_) rfl rfl (by kernel_rfl) (by kernel_rfl) (by kernel_rfl) (fun _ _ _ h => h) (by rfl) ?_ I15 ?_
      rotate_left
      · (intro w' hSw; obtain ⟨q0, q1, q2, q3⟩ := hSw.cells; go_simp; try with_reducible rfl)
      try simp only [Act.put, List.setIfInBounds_toArray, List.set_cons_zero, List.set_cons_succ]
      refine takeW (i := 6) (d := some 122) (v := ?_) rfl rfl (by kernel_rfl) (by kernel_rfl) (by kernel_rfl) (fun _ _ _ h => h) (by rfl) ?_ I15 ?_
      rotate_left
      · (intro w' hSw; obtain ⟨q0, q1, q2, q3⟩ := hSw.cells; go_simp; try with_reducible rfl)
      try simp only [Act.put, List.setIfInBounds_toArray, List.set_cons_zero, List.set_cons_succ]
      refine takeW (i := 7) (d := some 123) (v := ?_) rfl rfl (by kernel_rfl) (by kernel_rfl) (by kernel_rfl) (fun _ _ _ h => h) (by rfl) ?_ I15 ?_
      rotate_left
      · (intro w' hSw; obtain ⟨q0, q1, q2, q3⟩ := hSw.cells; go_simp; try with_reducible rfl)
      try simp only [Act.put, List.setIfInBounds_toArray, List.set_cons_zero, List.set_cons_succ]
      refine takeW (i := 8) (d := some 124) (v := ?_) rfl rfl (by kernel_rfl) (by kernel_rfl) (by kernel_rfl) (fun _ _ _ h => h) (by rfl) ?_ I15 ?_
      rotate_left
      · (intro w' hSw; obtain ⟨q0, q1, q2, q3⟩ := hSw.cells; go_simp; try with_reducible rfl)
      try simp only [Act.put, List.setIfInBounds_toArray, List.set_cons_zero, List.set_cons_succ]
      refine wpAnyH_ready (rs := [4]) (by kernel_rfl) (by simp) ?_
      refine AllReadyH.cons rfl (fun K hK => ?_) AllReadyH.nil
      go_simp
      refine (Gs.out _ I15).mono ?_
      rintro e w16 ⟨rfl, hb16⟩
      have I16 := I15.below hb16
      clear hb16
      refine hK.out _ _ I16 (fun _ => ?_)
      clear hK K
      try simp only [Act.put, List.setIfInBounds_toArray, List.set_cons_zero, List.set_cons_succ]
      refine wpAnyH_ready (rs := [9]) (by kernel_rfl) (by simp) ?_
      refine AllReadyH.cons rfl (fun K hK => ?_) AllReadyH.nil
      go_simp
      refine (Gt.out _ I16).mono ?_
      rintro e w17 ⟨rfl, hb17⟩
      have I17 := I16.below hb17
      clear hb17
      refine hK.out _ _ I17 (fun _ => ?_)
      clear hK K
      try simp only [Act.put, List.setIfInBounds_toArray, List.set_cons_zero, List.set_cons_succ]
      refine takeW (i := 10) (d := some 126) (v := ?_) rfl rfl (by kernel_rfl) (by kernel_rfl) (by kernel_rfl) (fun _ _ _ h => h) (by rfl) ?_ I17 ?_
      rotate_left
      · (intro w' hSw; obtain ⟨q0, q1, q2, q3⟩ := hSw.cells; go_simp; try with_reducible rfl)
      try simp only [Act.put, List.setIfInBounds_toArray, List.set_cons_zero, List.set_cons_succ]
      refine takeW (i := 11) (d := some 127) (v := ?_) rfl rfl (by kernel_rfl) (by kernel_rfl) (by kernel_rfl) (fun _ _ _ h => h) (by rfl) ?_ I17 ?_
      rotate_left
      · (intro w' hSw; obtain ⟨q0, q1, q2, q3⟩ := hSw.cells; go_simp; try with_reducible rfl)
      try simp only [Act.put, List.setIfInBounds_toArray, List.set_cons_zero, List.set_cons_succ]
      refine takeW (i := 12) (d := some 8) (v := ?_) rfl rfl (by kernel_rfl) (by kernel_rfl) (by kernel_rfl) (fun _ _ _ h => h) (by rfl) ?_ I17 ?_
      rotate_left
      · (intro w' hSw; obtain ⟨q0, q1, q2, q3⟩ := hSw.cells; go_simp; try with_reducible rfl)
      try simp only [Act.put, List.setIfInBounds_toArray, List.set_cons_zero, List.set_cons_succ]
      refine wpAnyH_done (by kernel_rfl) ?_ _
      go_wp2_with fail
      go_ret
      exact ⟨by cases gam <;> rfl, I17.1.bel⟩
  · have hcu := check_of (checkIs_ok HA.out).2.2 (checkIs_ok HB.out).2.2 hgu
    have hcv := check_of (checkIs_ok HB.out).2.2 (checkIs_ok HA.out).2.2 hgv
    have HJ0 := Lib.hid (show Jn7 w (.slice A k c) (.slice A' k' c') (.slice B l d) (.slice B' l' d') w3.heap.size (.slice X nx cx) (.slice X' nx' cx') w4.heap.size (.slice Y ny cy) (.slice Y' ny' cy') tu su tv sv _ from ⟨S.out, T1.out, T2.out, rm_both R1.out Q1.out, rm_both R2.out Q2.out⟩)
    have Gu := Lib.hid fun W (S : Jn7 w (.slice A k c) (.slice A' k' c') (.slice B l d) (.slice B' l' d') w3.heap.size (.slice X nx cx) (.slice X' nx' cx') w4.heap.size (.slice Y ny cy) (.slice Y' ny' cy') tu su tv sv W) => has_any X X' nx cx nx' cx' tu su mn W S.2.2.2.1 hcu
    have Gv := Lib.hid fun W (S : Jn7 w (.slice A k c) (.slice A' k' c') (.slice B l d) (.slice B' l' d') w3.heap.size (.slice X nx cx) (.slice X' nx' cx') w4.heap.size (.slice Y ny cy) (.slice Y' ny' cy') tu su tv sv W) => has_any Y Y' ny cy ny' cy' tv sv mn W S.2.2.2.2 hcv
    have Ga := Lib.hid fun W (S : Jn7 w (.slice A k c) (.slice A' k' c') (.slice B l d) (.slice B' l' d') w3.heap.size (.slice X nx cx) (.slice X' nx' cx') w4.heap.size (.slice Y ny cy) (.slice Y' ny' cy') tu su tv sv W) => has_any A A' k c k' c' ta sa mn W (H.out.up S.1.siz S.1.bel) HA.out
    have Gb := Lib.hid fun W (S : Jn7 w (.slice A k c) (.slice A' k' c') (.slice B l d) (.slice B' l' d') w3.heap.size (.slice X nx cx) (.slice X' nx' cx') w4.heap.size (.slice Y ny cy) (.slice Y' ny' cy') tu su tv sv W) => has_any B B' l d l' d' tb sb mn W (H'.out.up S.1.siz S.1.bel) HB.out
    have Gc := Lib.hid fun W (S : Jn7 w (.slice A k c) (.slice A' k' c') (.slice B l d) (.slice B' l' d') w3.heap.size (.slice X nx cx) (.slice X' nx' cx') w4.heap.size (.slice Y ny cy) (.slice Y' ny' cy') tu su tv sv W) => check_rm S.2.2.2.1 hcu
    rw [has_of hgu mn] at Gu
    rw [has_of hgv mn] at Gv
    rw [ha] at Gu Gv Ga
    rw [Bool.false_or] at Gu
    rw [Bool.or_false] at Gv
    rw [hb] at Gu Gv Gb
    clear hgu hgv hcu hcv HU HV T1 T2 R1 Q1 R2 Q2
    go_wp2_with fail
    refine wp_region_held_drew (S := Jn7 w (.slice A k c) (.slice A' k' c') (.slice B l d) (.slice B' l' d') w3.heap.size (.slice X nx cx) (.slice X' nx' cx') w4.heap.size (.slice Y ny cy) (.slice Y' ny' cy') tu su tv sv) (by kernel_rfl) (HJ0.out.below (Below.refl _ _).drew) (fun J0 => ?_)
    refine takeW (i := 0) (d := some 65) (v := ?_) rfl rfl (by kernel_rfl) (by kernel_rfl) (by kernel_rfl) (fun _ _ _ h => h) (by rfl) ?_ J0 ?_
    rotate_left
    · (intro w' hSw; obtain ⟨q0, q1, q2, q3, q4, q5, q6, q7⟩ := hSw.cells; go_simp; try with_reducible rfl)
    try simp only [Act.put, List.setIfInBounds_toArray, List.set_cons_zero, List.set_cons_succ]
    refine takeW (i := 1) (d := some 66) (v := ?_) rfl rfl (by kernel_rfl) (by kernel_rfl) (by kernel_rfl) (fun _ _ _ h => h) (by rfl) ?_ J0 ?_
    rotate_left
    · (intro w' hSw; obtain ⟨q0, q1, q2, q3, q4, q5, q6, q7⟩ := hSw.cells; go_simp; try with_reducible rfl)
    try simp only [Act.put, List.setIfInBounds_toArray, List.set_cons_zero, List.set_cons_succ]
    refine takeW (i := 2) (d := some 67) (v := ?_) rfl rfl (by kernel_rfl) (by kernel_rfl) (by kernel_rfl) (fun _ _ _ h => h) (by rfl) ?_ J0 ?_
    rotate_left
    · (intro w' hSw; obtain ⟨q0, q1, q2, q3, q4, q5, q6, q7⟩ := hSw.cells; go_simp; try with_reducible rfl)
    try simp only [Act.put, List.setIfInBounds_toArray, List.set_cons_zero, List.set_cons_succ]
    refine takeW (i := 3) (d := some 68) (v := ?_) rfl rfl (by kernel_rfl) (by kernel_rfl) (by kernel_rfl) (fun _ _ _ h => h) (by rfl) ?_ J0 ?_
    rotate_left
    · (intro w' hSw; obtain ⟨q0, q1, q2, q3, q4, q5, q6, q7⟩ := hSw.cells; go_simp; try with_reducible rfl)
    try simp only [Act.put, List.setIfInBounds_toArray, List.set_cons_zero, List.set_cons_succ]
    refine takeW (i := 4) (d := some 69) (v := ?_) rfl rfl (by kernel_rfl) (by kernel_rfl) (by kernel_rfl) (fun _ _ _ h => h) (by rfl) ?_ J0 ?_
    rotate_left
    · (intro w' hSw; obtain ⟨q0, q1, q2, q3, q4, q5, q6, q7⟩ := hSw.cells; go_simp; try with_reducible rfl)
    try simp only [Act.put, List.setIfInBounds_toArray, List.set_cons_zero, List.set_cons_succ]
    refine takeW (i := 6) (d := some 71) (v := ?_) rfl rfl (by kernel_rfl) (by kernel_rfl) (by kernel_rfl) (fun _ _ _ h => h) (by rfl) ?_ J0 ?_
    rotate_left
    · (intro w' hSw; obtain ⟨q0, q1, q2, q3, q4, q5, q6, q7⟩ := hSw.cells; go_simp; try with_reducible rfl)
    try simp only [Act.put, List.setIfInBounds_toArray, List.set_cons_zero, List.set_cons_succ]
    refine takeW (i := 7) (d := some 72) (v := ?_) rfl rfl (by kernel_rfl) (by kernel_rfl) (by kernel_rfl) (fun _ _ _ h => h) (by rfl) ?_ J0 ?_
    rotate_left
    · (intro w' hSw; obtain ⟨q0, q1, q2, q3, q4, q5, q6, q7⟩ := hSw.cells; go_simp; try with_reducible rfl)
    try simp only [Act.put, List.setIfInBounds_toArray, List.set_cons_zero, List.set_cons_succ]
    refine wpAnyH_ready (rs := [5]) (by kernel_rfl) (by simp) ?_
    refine AllReadyH.cons rfl (fun K hK => ?_) AllReadyH.nil
    go_simp
    refine (Gu.out _ J0).mono ?_
    rintro e w5 ⟨rfl, hb5⟩
    have J5 := J0.below hb5
    clear hb5
    refine hK.out _ _ J5 (fun _ => ?_)
    clear hK K
    try simp only [Act.put, List.setIfInBounds_toArray, List.set_cons_zero, List.set_cons_succ]
    refine wpAnyH_ready (rs := [8]) (by kernel_rfl) (by simp) ?_
    refine AllReadyH.cons rfl (fun K hK => ?_) AllReadyH.nil
    go_simp
    refine (Ga.out _ J5).mono ?_
    rintro e w6 ⟨rfl, hb6⟩
    have J6 := J5.below hb6
    clear hb6
    refine hK.out _ _ J6 (fun _ => ?_)
    clear hK K
    try simp only [Act.put, List.setIfInBounds_toArray, List.set_cons_zero, List.set_cons_succ]
    refine takeW (i := 9) (d := some 74) (v := ?_) rfl rfl (by kernel_rfl) (by kernel_rfl) (by kernel_rfl) (fun _ _ _ h => h) (by rfl) ?_ J6 ?_
    rotate_left
    · (intro w' hSw; obtain ⟨q0, q1, q2, q3, q4, q5, q6, q7⟩ := hSw.cells; go_simp; try with_reducible rfl)
    try simp only [Act.put, List.setIfInBounds_toArray, List.set_cons_zero, List.set_cons_succ]
    refine takeW (i := 10) (d := some 75) (v := ?_) rfl rfl (by kernel_rfl) (by kernel_rfl) (by kernel_rfl) (fun _ _ _ h => h) (by rfl) ?_ J6 ?_
    rotate_left
    · (intro w' hSw; obtain ⟨q0, q1, q2, q3, q4, q5, q6, q7⟩ := hSw.cells; go_simp; try with_reducible rfl)
    try simp only [Act.put, List.setIfInBounds_toArray, List.set_cons_zero, List.set_cons_succ]
    refine takeW (i := 11) (d := some 76) (v := ?_) rfl rfl (by kernel_rfl) (by kernel_rfl) (by kernel_rfl) (fun _ _ _ h => h) (by rfl) ?_ J6 ?_
    rotate_left
    · (intro w' hSw; obtain ⟨q0, q1, q2, q3, q4, q5, q6, q7⟩ := hSw.cells; go_simp; try with_reducible rfl)
    try simp only [Act.put, List.setIfInBounds_toArray, List.set_cons_zero, List.set_cons_succ]
    refine wpAnyH_ready (rs := [12]) (by kernel_rfl) (by simp) ?_
    refine AllReadyH.cons rfl (fun K hK => ?_) AllReadyH.nil
    go_simp
    refine (Gb.out _ J6).mono ?_
    rintro e w7 ⟨rfl, hb7⟩
    have J7 := J6.below hb7
    clear hb7
    refine hK.out _ _ J7 (fun _ => ?_)
    clear hK K
    try simp only [Act.put, List.setIfInBounds_toArray, List.set_cons_zero, List.set_cons_succ]
    refine takeW (i := 13) (d := some 78) (v := ?_) rfl rfl (by kernel_rfl) (by kernel_rfl) (by kernel_rfl) (fun _ _ _ h => h) (by rfl) ?_ J7 ?_
    rotate_left
    · (intro w' hSw; obtain ⟨q0, q1, q2, q3, q4, q5, q6, q7⟩ := hSw.cells; go_simp; try with_reducible rfl)
    try simp only [Act.put, List.setIfInBounds_toArray, List.set_cons_zero, List.set_cons_succ]
    refine takeW (i := 14) (d := some 79) (v := ?_) rfl rfl (by kernel_rfl) (by kernel_rfl) (by kernel_rfl) (fun _ _ _ h => h) (by rfl) ?_ J7 ?_
    rotate_left
    · (intro w' hSw; obtain ⟨q0, q1, q2, q3, q4, q5, q6, q7⟩ := hSw.cells; go_simp; try with_reducible rfl)
    try simp only [Act.put, List.setIfInBounds_toArray, List.set_cons_zero, List.set_cons_succ]
    refine takeW (i := 15) (d := some 80) (v := ?_) rfl rfl (by kernel_rfl) (by kernel_rfl) (by kernel_rfl) (fun _ _ _ h => h) (by rfl) ?_ J7 ?_
    rotate_left
    · (intro w' hSw; obtain ⟨q0, q1, q2, q3, q4, q5, q6, q7⟩ := hSw.cells; go_simp; try with_reducible rfl)
    try simp only [Act.put, List.setIfInBounds_toArray, List.set_cons_zero, List.set_cons_succ]
    refine takeW (i := 16) (d := some 81) (v := ?_) rfl rfl (by kernel_rfl) (by kernel_rfl) (by kernel_rfl) (fun _ _ _ h => h) (by rfl) ?_ J7 ?_
    rotate_left
    · (intro w' hSw; obtain ⟨q0, q1, q2, q3, q4, q5, q6, q7⟩ := hSw.cells; go_simp; try with_reducible rfl)
    try simp only [Act.put, List.setIfInBounds_toArray, List.set_cons_zero, List.set_cons_succ]
    refine takeW (i := 17) (d := some 82) (v := ?_) rfl rfl (by kernel_rfl) (by kernel_rfl) (by kernel_rfl) (fun _ _ _ h => h) (by rfl) ?_ J7 ?_
    rotate_left
    · (intro w' hSw; obtain ⟨q0, q1, q2, q3, q4, q5, q6, q7⟩ := hSw.cells; go_simp; try with_reducible rfl)
    try simp only [Act.put, List.setIfInBounds_toArray, List.set_cons_zero, List.set_cons_succ]
    refine takeW (i := 19) (d := some 84) (v := ?_) rfl rfl (by kernel_rfl) (by kernel_rfl) (by kernel_rfl) (fun _ _ _ h => h) (by rfl) ?_ J7 ?_
    rotate_left
    · (intro w' hSw; obtain ⟨q0, q1, q2, q3, q4, q5, q6, q7⟩ := hSw.cells; go_simp; try with_reducible rfl)
    try simp only [Act.put, List.setIfInBounds_toArray, List.set_cons_zero, List.set_cons_succ]
    refine takeW (i := 20) (d := some 85) (v := ?_) rfl rfl (by kernel_rfl) (by kernel_rfl) (by kernel_rfl) (fun _ _ _ h => h) (by rfl) ?_ J7 ?_
    rotate_left
    · (intro w' hSw; obtain ⟨q0, q1, q2, q3, q4, q5, q6, q7⟩ := hSw.cells; go_simp; try with_reducible rfl)
    try simp only [Act.put, List.setIfInBounds_toArray, List.set_cons_zero, List.set_cons_succ]
    refine wpAnyH_ready (rs := [18]) (by kernel_rfl) (by simp) ?_
    refine AllReadyH.cons rfl (fun K hK => ?_) AllReadyH.nil
    go_simp
    refine (Gu.out _ J7).mono ?_
    rintro e w8 ⟨rfl, hb8⟩
    have J8 := J7.below hb8
    clear hb8
    refine hK.out _ _ J8 (fun _ => ?_)
    clear hK K
    try simp only [Act.put, List.setIfInBounds_toArray, List.set_cons_zero, List.set_cons_succ]
    refine wpAnyH_ready (rs := [21]) (by kernel_rfl) (by simp) ?_
    refine AllReadyH.cons rfl (fun K hK => ?_) AllReadyH.nil
    go_simp
    refine (Gv.out _ J8).mono ?_
    rintro e w9 ⟨rfl, hb9⟩
    have J9 := J8.below hb9
    clear hb9
    refine hK.out _ _ J9 (fun _ => ?_)
    clear hK K
    try simp only [Act.put, List.setIfInBounds_toArray, List.set_cons_zero, List.set_cons_succ]
    refine takeW (i := 22) (d := some 87) (v := ?_) rfl rfl (by kernel_rfl) (by kernel_rfl) (by kernel_rfl) (fun _ _ _ h => h) (by rfl) ?_ J9 ?_
    rotate_left
    · (intro w' hSw; obtain ⟨q0, q1, q2, q3, q4, q5, q6, q7⟩ := hSw.cells; go_simp; try with_reducible rfl)
    try simp only [Act.put, List.setIfInBounds_toArray, List.set_cons_zero, List.set_cons_succ]
    refine takeW (i := 23) (d := some 88) (v := ?_) rfl rfl (by kernel_rfl) (by kernel_rfl) (by kernel_rfl) (fun _ _ _ h => h) (by rfl) ?_ J9 ?_
    rotate_left
    · (intro w' hSw; obtain ⟨q0, q1, q2, q3, q4, q5, q6, q7⟩ := hSw.cells; go_simp; try with_reducible rfl)
    try simp only [Act.put, List.setIfInBounds_toArray, List.set_cons_zero, List.set_cons_succ]
    refine takeW (i := 24) (d := some 89) (v := ?_) rfl rfl (by kernel_rfl) (by kernel_rfl) (by kernel_rfl) (fun _ _ _ h => h) (by rfl) ?_ J9 ?_
    rotate_left
    · (intro w' hSw; obtain ⟨q0, q1, q2, q3, q4, q5, q6, q7⟩ := hSw.cells; go_simp; try with_reducible rfl)
    try simp only [Act.put, List.setIfInBounds_toArray, List.set_cons_zero, List.set_cons_succ]
    refine takeW (i := 25) (d := some 90) (v := ?_) rfl rfl (by kernel_rfl) (by kernel_rfl) (by kernel_rfl) (fun _ _ _ h => h) (by rfl) ?_ J9 ?_
    rotate_left
    · (intro w' hSw; obtain ⟨q0, q1, q2, q3, q4, q5, q6, q7⟩ := hSw.cells; go_simp; try with_reducible rfl)
    try simp only [Act.put, List.setIfInBounds_toArray, List.set_cons_zero, List.set_cons_succ]
    refine wpAnyH_ready (rs := [26]) (by kernel_rfl) (by simp) ?_
    refine AllReadyH.cons rfl (fun K hK => ?_) AllReadyH.nil
    go_simp
    refine (Gc.out _ J9).mono ?_
    rintro e w10 ⟨rfl, hb10⟩
    have J10 := J9.below hb10
    clear hb10
    refine hK.out _ _ J10 (fun _ => ?_)
    clear hK K
    try simp only [Act.put, List.setIfInBounds_toArray, List.set_cons_zero, List.set_cons_succ]
    refine takeW (i := 27) (d := some 92) (v := ?_) rfl rfl (by kernel_rfl) (by kernel_rfl) (by kernel_rfl) (fun _ _ _ h => h) (by rfl) ?_ J10 ?_
    rotate_left
    · (intro w' hSw; obtain ⟨q0, q1, q2, q3, q4, q5, q6, q7⟩ := hSw.cells; go_simp; try with_reducible rfl)
    try simp only [Act.put, List.setIfInBounds_toArray, List.set_cons_zero, List.set_cons_succ]
    refine takeW (i := 28) (d := some 93) (v := ?_) rfl rfl (by kernel_rfl) (by kernel_rfl) (by kernel_rfl) (fun _ _ _ h => h) (by rfl) ?_ J10 ?_
    rotate_left
    · (intro w' hSw; obtain ⟨q0, q1, q2, q3, q4, q5, q6, q7⟩ := hSw.cells; go_simp; try with_reducible rfl)
    try simp only [Act.put, List.setIfInBounds_toArray, List.set_cons_zero, List.set_cons_succ]
    refine takeW (i := 29) (d := some 94) (v := ?_) rfl rfl (by kernel_rfl) (by kernel_rfl) (by kernel_rfl) (fun _ _ _ h => h) (by rfl) ?_ J10 ?_
    rotate_left
    · (intro w' hSw; obtain ⟨q0, q1, q2, q3, q4, q5, q6, q7⟩ := hSw.cells; go_simp; try with_reducible rfl)
    try simp only [Act.put, List.setIfInBounds_toArray, List.set_cons_zero, List.set_cons_succ]
    refine wpAnyH_done (by kernel_rfl) ?_ _
    have S := Lib.hid J10.1
    clear J0 J5 J6 J7 J8 J9 J10 HJ0 Gu Gv Ga Gb Gc
    obtain ⟨t0, t1, t2, t3, t4, _⟩ := S.out.out
    go_wp2_with fail
    refine (C3.out _ S.out).mono ?_
    rintro e w13 ⟨v, ls, d3, rfl, r3, h13, hf⟩
    obtain ⟨Z, nz, cz, rfl⟩ := r3.slice
    have ba := (Below.refl w13.heap.size w13).alloc (Nat.le_refl _) (.cells #[.slice Z nz cz, .slice none 0 0] 25)
    have S := Lib.hid ((S.out.below h13).below ba)
    have T3_ := Lib.hid (Two.new (W := w13) (x := .slice Z nz cz) (y := .slice none 0 0) 25)
    have R3 := Lib.hid (r3.later ba)
    have HF := Lib.hid hf
    clear h13 hf r3 ba t0 t1 t2 t3 t4 C3
    have hwr : IntKind.i64.wrap (mn - by_) = mn - by_ := IntWalk.i64_in _ (by omega)
    have hs : d3 ≠ 0 ∨ (d3 = 0 ∧ mn - by_ < 0) ∨ (d3 = 0 ∧ ¬ mn - by_ < 0 ∧ 1048576 < mn - by_) ∨ (d3 = 0 ∧ ¬ mn - by_ < 0 ∧ mn - by_ ≤ 1048576) := by omega
    rcases hs with a1 | ⟨rfl, a1⟩ | ⟨rfl, a1, a2⟩ | ⟨rfl, a1, a2⟩
    · have hb0 : (d3 != 0) = true := by rw [bne_iff_ne]; exact a1
      clear a1
      go_wp2_with fail
      refine (HS.out _).mono ?_
      rintro e w14 ⟨rfl, h14⟩
      have S := Lib.hid (S.out.below h14)
      clear h14
      go_wp2_with fail
      go_ret
      exact ⟨rfl, S.out.bel⟩
    · go_wp2_with fail
      refine (HS.out _).mono ?_
      rintro e w14 ⟨rfl, h14⟩
      have S := Lib.hid (S.out.below h14)
      clear h14
      go_wp2_with fail
      go_ret
      exact ⟨rfl, S.out.bel⟩
    · go_wp2_with fail
      refine (HS.out _).mono ?_
      rintro e w14 ⟨rfl, h14⟩
      have S := Lib.hid (S.out.below h14)
      clear h14
      go_wp2_with fail
      go_ret
      exact ⟨rfl, S.out.bel⟩
    · obtain ⟨hc0, hcl, hv⟩ := HF.out.good HA.out rfl mn ⟨by omega, by omega⟩ ⟨by omega, by omega⟩
      have I0 : In12 w (.slice A k c) (.slice A' k' c') (.slice B l d) (.slice B' l' d') w13.heap.size (.slice Z nz cz) (.slice none 0 0) ls (w13.alloc (.cells #[.slice Z nz cz, .slice none 0 0] 25)) := ⟨S.out, T3_.out, rm_of R3.out⟩
      have HSI := Lib.hid fun W (_ : In12 w (.slice A k c) (.slice A' k' c') (.slice B l d) (.slice B' l' d') w13.heap.size (.slice Z nz cz) (.slice none 0 0) ls W) => HS.out W
      have Gs := Lib.hid fun W (S : In12 w (.slice A k c) (.slice A' k' c') (.slice B l d) (.slice B' l' d') w13.heap.size (.slice Z nz cz) (.slice none 0 0) ls W) => has_any Z none nz cz 0 0 ls [] mn W S.2.2 hcl
      have Gt := Lib.hid fun W (S : In12 w (.slice A k c) (.slice A' k' c') (.slice B l d) (.slice B' l' d') w13.heap.size (.slice Z nz cz) (.slice none 0 0) ls W) => has_any A A' k c k' c' ta sa (mn - by_) W (H.out.up S.1.siz S.1.bel) (HA.out.unique0 hc0)
      rw [hv] at Gs
      generalize hasV ta sa (mn - by_) = gam at Gs Gt
      clear hv hcl hc0 HF
      have HI := Lib.hid I0
      clear I0
      go_wp2_with fail
      refine wp_region_held_drew (S := In12 w (.slice A k c) (.slice A' k' c') (.slice B l d) (.slice B' l' d') w13.heap.size (.slice Z nz cz) (.slice none 0 0) ls) (by kernel_rfl) (HI.out.below (Below.refl _ _).drew) (fun I0 => ?_)
      refine wpAnyH_ready (rs := [0]) (by kernel_rfl) (by simp) ?_
      refine AllReadyH.cons rfl (fun K hK => ?_) AllReadyH.nil
      go_simp
      refine (HSI.out _ I0).mono ?_
      rintro e w15 ⟨rfl, hb15⟩
      have I15 := I0.below hb15
      clear hb15
      refine hK.out _ _ I15 (fun _ => ?_)
      clear hK K
      try simp only [Act.put, List.setIfInBounds_toArray, List.set_cons_zero, List.set_cons_succ]
      refine takeW (i := 1) (d := some 117) (v := ?_) rfl rfl (by kernel_rfl) (by kernel_rfl) (by kernel_rfl) (fun _ _ _ h => h) (by rfl) ?_ I15 ?_
      rotate_left
      · (intro w' hSw; obtain ⟨q0, q1, q2, q3⟩ := hSw.cells; go_simp; try with_reducible rfl)
      try simp only [Act.put, List.setIfInBounds_toArray, List.set_cons_zero, List.set_cons_succ]
      refine takeW (i := 2) (d := some 118) (v := ?_) rfl rfl (by kernel_rfl) (by kernel_rfl) (by kernel_rfl) (fun _ _ _ h => h) (by rfl) ?_ I15 ?_
      rotate_left
      · (intro w' hSw; obtain ⟨q0, q1, q2, q3⟩ := hSw.cells; go_simp; try with_reducible rfl)
      try simp only [Act.put, List.setIfInBounds_toArray, List.set_cons_zero, List.set_cons_succ]
      refine takeW (i := 3) (d := some 119) (v := ?_) rfl rfl (by kernel_rfl) (by kernel_rfl) (by kernel_rfl) (fun _ _ _ h => h) (by rfl) ?_ I15 ?_
      rotate_left
      · (intro w' hSw; obtain ⟨q0, q1, q2, q3⟩ := hSw.cells; go_simp; try with_reducible rfl)
      try simp only [Act.put, List.setIfInBounds_toArray, List.set_cons_zero, List.set_cons_succ]
      refine takeW (i := 5) (d := some 121) (v := ?_) rfl rfl (by kernel_rfl) (by kernel_rfl) (by kernel_rfl) (fun _ _ _ h => h) (by rfl) ?_ I15 ?_
      rotate_left
      · (intro w' hSw; obtain ⟨q0, q1, q2, q3⟩ := hSw.cells; go_simp; try with_reducible rfl)
      try simp only [Act.put, List.setIfInBounds_toArray, List.set_cons_zero, List.set_cons_succ]
      refine takeW (i := 6) (d := some 122) (v := ?_) rfl rfl (by kernel_rfl) (by kernel_rfl) (by kernel_rfl) (fun _ _ _ h => h) (by rfl) ?_ I15 ?_
      rotate_left
      · (intro w' hSw; obtain ⟨q0, q1, q2, q3⟩ := hSw.cells; go_simp; try with_reducible rfl)
      try simp only [Act.put, List.setIfInBounds_toArray, List.set_cons_zero, List.set_cons_succ]
      refine takeW (i := 7) (d := some 123) (v := ?_) rfl rfl (by kernel_rfl) (by kernel_rfl) (by kernel_rfl) (fun _ _ _ h => h) (by rfl) ?_ I15 ?_
      rotate_left
      · (intro w' hSw; obtain ⟨q0, q1, q2, q3⟩ := hSw.cells; go_simp; try with_reducible rfl)
      try simp only [Act.put, List.setIfInBounds_toArray, List.set_cons_zero, List.set_cons_succ]
      refine takeW (i := 8) (d := some 124) (v := ?_) rfl rfl (by kernel_rfl) (by kernel_rfl) (by kernel_rfl) (fun _ _ _ h => h) (by rfl) ?_ I15 ?_
      rotate_left
      · (intro w' hSw; obtain ⟨q0, q1, q2, q3⟩ := hSw.cells; go_simp; try with_reducible rfl)
      try simp only [Act.put, List.setIfInBounds_toArray, List.set_cons_zero, List.set_cons_succ]
      refine wpAnyH_ready (rs := [4]) (by kernel_rfl) (by simp) ?_
      refine AllReadyH.cons rfl (fun K hK => ?_) AllReadyH.nil
      go_simp
      refine (Gs.out _ I15).mono ?_
      rintro e w16 ⟨rfl, hb16⟩
      have I16 := I15.below hb16
      clear hb16
      refine hK.out _ _ I16 (fun _ => ?_)
      clear hK K
      try simp only [Act.put, List.setIfInBounds_toArray, List.set_cons_zero, List.set_cons_succ]
      refine wpAnyH_ready (rs := [9]) (by kernel_rfl) (by simp) ?_
      refine AllReadyH.cons rfl (fun K hK => ?_) AllReadyH.nil
      go_simp
      refine (Gt.out _ I16).mono ?_
      rintro e w17 ⟨rfl, hb17⟩
      have I17 := I16.below hb17
      clear hb17
      refine hK.out _ _ I17 (fun _ => ?_)
      clear hK K
      try simp only [Act.put, List.setIfInBounds_toArray, List.set_cons_zero, List.set_cons_succ]
      refine takeW (i := 10) (d := some 126) (v := ?_) rfl rfl (by kernel_rfl) (by kernel_rfl) (by kernel_rfl) (fun _ _ _ h => h) (by rfl) ?_ I17 ?_
      rotate_left
      · (intro w' hSw; obtain ⟨q0, q1, q2, q3⟩ := hSw.cells; go_simp; try with_reducible rfl)
      try simp only [Act.put, List.setIfInBounds_toArray, List.set_cons_zero, List.set_cons_succ]
      refine takeW (i := 11) (d := some 127) (v := ?_) rfl rfl (by kernel_rfl) (by kernel_rfl) (by kernel_rfl) (fun _ _ _ h => h) (by rfl) ?_ I17 ?_
      rotate_left
      · (intro w' hSw; obtain ⟨q0, q1, q2, q3⟩ := hSw.cells; go_simp; try with_reducible rfl)
      try simp only [Act.put, List.setIfInBounds_toArray, List.set_cons_zero, List.set_cons_succ]
      refine takeW (i := 12) (d := some 8) (v := ?_) rfl rfl (by kernel_rfl) (by kernel_rfl) (by kernel_rfl) (fun _ _ _ h => h) (by rfl) ?_ I17 ?_
      rotate_left
      · (intro w' hSw; obtain ⟨q0, q1, q2, q3⟩ := hSw.cells; go_simp; try with_reducible rfl)
      try simp only [Act.put, List.setIfInBounds_toArray, List.set_cons_zero, List.set_cons_succ]
      refine wpAnyH_done (by kernel_rfl) ?_ _
      go_wp2_with fail
      go_ret
      exact ⟨by cases gam <;> rfl, I17.1.bel⟩
end Go.Proofs.YtcdodfehnkgjdaaGreatDoor
