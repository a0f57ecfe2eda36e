/- Contract of SameWorks, at equal works. -/
import Derived.Test.YtkoacclbempmdaaQFA
import Derived.Test.YtkoacclbempmdaaGK
namespace Go.Proofs.Ytkoacclbempmdaa
open Go.RowKit
attribute [local go_sem] Oper.semAt_some

/-- Two values in the function's first blocks. -/
structure SwS (w : World) (v u : Value) (W : World) : Prop where
 c0 : W.cell? ⟨w.heap.size, 0, none⟩ = some v
 c1 : W.cell? ⟨w.heap.size + 1, 0, none⟩ = some u
 bel : Below w.heap.size w W
theorem SwS.below {w W W' : World} {v u : Value} (h : SwS w v u W) (hb : Below W.heap.size W W') : SwS w v u W' := ⟨BelS.c hb h.c0, BelS.c hb h.c1, h.bel.trans (hb.mono h.bel.size)⟩
theorem cores_at {R R' : Wk} (h : R.map (fun os => os.map Ou.co) = R'.map (fun os => os.map Ou.co)) {k : Nat} {os : List Ou} (hk : R[k]? = some os) : ∃ os', R'[k]? = some os' ∧ os.map Ou.co = os'.map Ou.co := by
 have h1 := congrArg (fun l => l[k]?) h
 simp only [List.getElem?_map, hk, Option.map_some] at h1
 cases h2 : R'[k]? with
 | none => rw [h2] at h1; cases h1
 | some os' => rw [h2] at h1; exact ⟨os', rfl, by simpa using h1⟩
theorem co_at {os os' : List Ou} (h : os.map Ou.co = os'.map Ou.co) {k : Nat} {x : Ou} (hk : os[k]? = some x) : ∃ x', os'[k]? = some x' ∧ x.co = x'.co := by
 have h1 := congrArg (fun l => l[k]?) h
 simp only [List.getElem?_map, hk, Option.map_some] at h1
 cases h2 : os'[k]? with
 | none => rw [h2] at h1; cases h1
 | some x' => rw [h2] at h1; exact ⟨x', rfl, by simpa using h1⟩

set_option maxHeartbeats 8000000 in
set_option maxRecDepth 1000000 in
theorem sameWorks_any (A : Option Addr) (c : Nat) (A2 : Option Addr) (c2 : Nat) (R R' : Wk) (w : World) (h : RK w.heap.size (.slice A R.length c) R w) (h2 : RK w.heap.size (.slice A2 R'.length c2) R' w) (hc : R.map (fun os => os.map Ou.co) = R'.map (fun os => os.map Ou.co)) (hl : R.length ≤ 1000) (hol : ∀ os ∈ R, os.length ≤ 100000) (hps : ∀ os ∈ R, ∀ o ∈ os, o.ps.length ≤ 1000000) :
  Calls Try.prog 75 #[.agg #[.slice A R.length c], .agg #[.slice A2 R'.length c2]] w fun e w' => e = .returned (.bool true) ∧ Below w.heap.size w w' := by
 have H := Lib.hid h
 have H2 := Lib.hid h2
 have HC := Lib.hid hc
 have HB := Lib.hid (And.intro hol hps)
 have hlen : R'.length = R.length := by have := congrArg List.length hc; rw [List.length_map, List.length_map] at this; exact this.symm
 have hl0 : (R.length : Int) ≤ 1000 := by omega
 obtain ⟨W0, hW0⟩ : ∃ W0, (w.alloc (.cells #[.slice A R.length c] 24)).alloc (.cells #[.slice A2 R'.length c2] 24) = W0 := ⟨_, rfl⟩
 have S : Hid (SwS w (.slice A R.length c) (.slice A2 R'.length c2) W0) := Lib.hid ⟨by rw [← hW0]; simp [go_sem], by rw [← hW0]; simp [go_sem], by rw [← hW0]; exact ((Below.refl _ _).alloc (Nat.le_refl _) _).alloc (by simp) _⟩
 rw [hlen] at S H2 hW0 ⊢
 have x0 := S.out.c0
 have x1 := S.out.c1
 clear h h2 hc hl hol hps hlen
 go_enter Try.func75, Try.ntmps75
 go_wp2_with fail
 clear hW0 x0 x1
 go_loopw [5] (fun u wr => ∃ k : Nat, u = .int .i64 k ∧ k ≤ R.length ∧ SwS w (.slice A R.length c) (.slice A2 R.length c2) wr) (fun u _ => R.length - (intOf u).toNat)
 case atStart => exact ⟨0, rfl, by omega, S.out⟩
 case round =>
  obtain ⟨wo, rfl⟩ : ∃ wo, wo = wr := ⟨_, rfl⟩
  obtain ⟨k, rfl, hk, hS⟩ := hrel
  have HS := Lib.hid hS
  have x0 := hS.c0
  have x1 := hS.c1
  clear hS
  by_cases hkl : k < R.length
  ·have hk0 : (k : Int) < (R.length : Int) := by omega
   have hk2 : (0 : Int) ≤ (k : Int) := by omega
   obtain ⟨os, hos⟩ : ∃ os, R[k]? = some os := ⟨_, List.getElem?_eq_getElem hkl⟩
   obtain ⟨os', hos', hco⟩ := cores_at HC.out hos
   obtain ⟨b, o, A', c', hA, hb, hcell, hro⟩ := H.out.carrier hos
   obtain ⟨b2, o2, A2', c2', hA2, hb2, hcell2, hro2⟩ := H2.out.carrier hos'
   subst hA hA2
   have hll : os'.length = os.length := by have := congrArg List.length hco; rw [List.length_map, List.length_map] at this; exact this.symm
   have hol : (os.length : Int) ≤ 100000 := by have := HB.out.1 os (List.mem_of_getElem? hos); omega
   rw [hll] at hcell2 hro2
   have x2 := (HS.out.bel.cell (p := ⟨b, o + k, none⟩) hb).trans hcell
   have x3 := (HS.out.bel.cell (p := ⟨b2, o2 + k, none⟩) hb2).trans hcell2
   have HRO := Lib.hid (And.intro hro hro2)
   have HOS := Lib.hid (And.intro hos hos')
   have HCO := Lib.hid hco
   have HCE := Lib.hid (And.intro (And.intro hb hcell) (And.intro hb2 hcell2))
   clear hos hos' hco hro hro2 hcell hcell2 hll hb hb2
   go_wp2_with fail
   go_quiet (fail)
   obtain ⟨wd, hwd⟩ : ∃ W, wo.drewN nq = W := ⟨_, rfl⟩
   have bd : Below wo.heap.size wo wd := by rw [← hwd]; exact below_drewN (Below.refl _ _) _
   rw [hwd]
   have SD := Lib.hid (HS.out.below bd)
   have y0 := SD.out.c0
   have y1 := SD.out.c1
   have y2 := BelS.c bd x2
   have y3 := BelS.c bd x3
   clear hwd bd x0 x1 x2 x3
   go_wp2_with fail
   clear y0 y1 y2 y3
   go_loopw [6] (fun u wi => ∃ j : Nat, u = .int .i64 j ∧ j ≤ os.length ∧ SwS w (.slice (some ⟨b, o, none⟩) R.length c) (.slice (some ⟨b2, o2, none⟩) R.length c2) wi) (fun u _ => os.length - (intOf u).toNat)
   case atStart => exact ⟨0, rfl, by omega, SD.out⟩
   case round =>
    obtain ⟨j, rfl, hj, hS⟩ := hrel
    have SI := Lib.hid hS
    have x0 := hS.c0
    have x1 := hS.c1
    have x2 := (SI.out.bel.cell (p := ⟨b, o + k, none⟩) HCE.out.1.1).trans HCE.out.1.2
    have x3 := (SI.out.bel.cell (p := ⟨b2, o2 + k, none⟩) HCE.out.2.1).trans HCE.out.2.2
    clear hS
    by_cases hjl : j < os.length
    ·have hj0 : (j : Int) < (os.length : Int) := by omega
     have hj2 : (0 : Int) ≤ (j : Int) := by omega
     obtain ⟨x, hx⟩ : ∃ x, os[j]? = some x := ⟨_, List.getElem?_eq_getElem hjl⟩
     obtain ⟨y, hy, hxy⟩ := co_at HCO.out hx
     obtain ⟨-, e1, e2, e3, e4, e5, e6, e7⟩ := ouB_co (x := x) (y := y) (n := y.into) hxy
     obtain ⟨B1, C1, E1, -, Q1⟩ := HRO.out.1
     obtain ⟨B2, C2, E2, -, Q2⟩ := HRO.out.2
     obtain ⟨b3, o3, E3, hb3, Q1⟩ := Q1 (by omega)
     obtain ⟨b4, o4, E4, hb4, Q2⟩ := Q2 (by have := (List.getElem?_eq_some_iff.1 hy).1; omega)
     simp only [Value.slice.injEq] at E1 E2
     obtain ⟨E1, -, -⟩ := E1
     obtain ⟨E2, -, -⟩ := E2
     rw [E3] at E1
     rw [E4] at E2
     subst E1 E2
     obtain ⟨q0, q1, q2, q3, q4, q5, q6, q7⟩ := Q1 j x hx
     obtain ⟨r0, r1, r2, r3, r4, r5, r6, r7⟩ := Q2 j y hy
     have HRI := Lib.hid (And.intro q3 r3)
     rw [← e2] at r0
     rw [← e1] at r1
     rw [← e4] at r4
     rw [← e5] at r5
     rw [← e6] at r6
     rw [← e7] at r7
     have up := fun (i : Nat) u (h : w.cell? ⟨b3, i, none⟩ = some u) => (SI.out.bel.cell (p := ⟨b3, i, none⟩) hb3).trans h
     have up4 := fun (i : Nat) u (h : w.cell? ⟨b4, i, none⟩ = some u) => (SI.out.bel.cell (p := ⟨b4, i, none⟩) hb4).trans h
     replace q0 := up _ _ q0
     replace q1 := up _ _ q1
     replace q2 := up _ _ q2
     replace q4 := up _ _ q4
     replace q5 := up _ _ q5
     replace q6 := up _ _ q6
     replace q7 := up _ _ q7
     replace r0 := up4 _ _ r0
     replace r1 := up4 _ _ r1
     replace r2 := up4 _ _ r2
     replace r4 := up4 _ _ r4
     replace r5 := up4 _ _ r5
     replace r6 := up4 _ _ r6
     replace r7 := up4 _ _ r7
     have HPE := Lib.hid e3
     have HXX := Lib.hid (HB.out.2 os (List.mem_of_getElem? HOS.out.1) x (List.mem_of_getElem? hx))
     clear up up4 Q1 Q2 q3 r3 hx hy hxy e1 e2 e3 e4 e5 e6 e7 E3 E4
     obtain ⟨Wa, hWa⟩ : ∃ Wa, wr.alloc (.cells #[.int .i64 x.id, .int .i64 x.into, .slice x.pa x.ps.length x.pc, .int .i64 x.k0, .int .i64 x.k1, .int .i64 x.s0, .int .i64 x.s1] 42) = Wa := ⟨_, rfl⟩
     have ba : Below wr.heap.size wr Wa := by rw [← hWa]; exact (Below.refl _ _).alloc (Nat.le_refl _) _
     have SA := Lib.hid (SI.out.below ba)
     have z0 := SA.out.c0
     have z1 := SA.out.c1
     have z2 := BelS.c ba x2
     have z3 := BelS.c ba x3
     have s0 := BelS.c ba r0
     have s1 := BelS.c ba r1
     have s2 := BelS.c ba r2
     have s4 := BelS.c ba r4
     have s5 := BelS.c ba r5
     have s6 := BelS.c ba r6
     have s7 := BelS.c ba r7
     obtain ⟨Wb, hWb⟩ : ∃ Wb, Wa.alloc (.cells #[.int .i64 x.id, .int .i64 x.into, .slice y.pa y.ps.length y.pc, .int .i64 x.k0, .int .i64 x.k1, .int .i64 x.s0, .int .i64 x.s1] 42) = Wb := ⟨_, rfl⟩
     have bb : Below Wa.heap.size Wa Wb := by rw [← hWb]; exact (Below.refl _ _).alloc (Nat.le_refl _) _
     have hza : Wa.heap.size = wr.heap.size + 1 := by rw [← hWa]; simp
     have A0 : ∀ (i : Nat) u, [Value.int .i64 x.id, .int .i64 x.into, .slice x.pa x.ps.length x.pc, .int .i64 x.k0, .int .i64 x.k1, .int .i64 x.s0, .int .i64 x.s1][i]? = some u → Wb.cell? ⟨wr.heap.size, i, none⟩ = some u := fun i u hu => by
      refine (bb.cell (p := ⟨wr.heap.size, i, none⟩) (by show wr.heap.size < _; omega)).trans ?_
      rw [← hWa]
      match i, hu with
      | 0, hu => cases hu; simp [go_sem]
      | 1, hu => cases hu; simp [go_sem]
      | 2, hu => cases hu; simp [go_sem]
      | 3, hu => cases hu; simp [go_sem]
      | 4, hu => cases hu; simp [go_sem]
      | 5, hu => cases hu; simp [go_sem]
      | 6, hu => cases hu; simp [go_sem]
      | i + 7, hu => simp at hu
     have A1 : ∀ (i : Nat) u, [Value.int .i64 x.id, .int .i64 x.into, .slice y.pa y.ps.length y.pc, .int .i64 x.k0, .int .i64 x.k1, .int .i64 x.s0, .int .i64 x.s1][i]? = some u → Wb.cell? ⟨Wa.heap.size, i, none⟩ = some u := fun i u hu => by
      rw [← hWb]
      match i, hu with
      | 0, hu => cases hu; simp [go_sem]
      | 1, hu => cases hu; simp [go_sem]
      | 2, hu => cases hu; simp [go_sem]
      | 3, hu => cases hu; simp [go_sem]
      | 4, hu => cases hu; simp [go_sem]
      | 5, hu => cases hu; simp [go_sem]
      | 6, hu => cases hu; simp [go_sem]
      | i + 7, hu => simp at hu
     have HA := Lib.hid (And.intro A0 A1)
     have SB := Lib.hid (SA.out.below bb)
     have l0 := A0 2 _ rfl
     have l1 := A1 2 _ rfl
     have HZA := Lib.hid hza
     obtain ⟨h9, hh9⟩ : ∃ h, Wa.heap.size = h := ⟨_, rfl⟩
     have HH9 := Lib.hid hh9
     have HWAS : Hid (wr.heap.size < Wb.heap.size ∧ Wa.heap.size < Wb.heap.size) := Lib.hid ⟨World.block_lt_of_cell? _ _ l0, World.block_lt_of_cell? _ _ l1⟩
     clear A0 A1 ba bb hza hh9
     go_wp2_with fail
     clear hWa hWb x0 x1 x2 x3 z0 z1 z2 z3 q0 q1 q2 q4 q5 q6 q7 r0 r1 r2 r4 r5 r6 r7 s0 s1 s2 s4 s5 s6 s7 l0 l1
     have rx : RR encI Wb.heap.size (.slice x.pa x.ps.length x.pc) x.ps Wb := (ri_rr HRI.out.1).up SB.out.bel.size SB.out.bel
     have ry : RR encI Wb.heap.size (.slice y.pa y.ps.length y.pc) x.ps Wb := by
      have := (ri_rr HRI.out.2).up SB.out.bel.size SB.out.bel
      rw [← HPE.out] at this ⊢
      rw [HPE.out] at this ⊢
      exact this
     refine (sameInts_any _ _ x.ps Wb rx ry HXX.out).mono ?_
     rintro e we ⟨rfl, be⟩
     have SE := Lib.hid (SB.out.below be)
     have a := fun i u h => (be.cell (p := ⟨wr.heap.size, i, none⟩) HWAS.out.1).trans (HA.out.1 i u h)
     have a' := fun i u h => (be.cell (p := ⟨Wa.heap.size, i, none⟩) HWAS.out.2).trans (HA.out.2 i u h)
     have a0 := a 0 _ rfl
     have a1 := a 1 _ rfl
     have a3 := a 3 _ rfl
     have a4 := a 4 _ rfl
     have a5 := a 5 _ rfl
     have a6 := a 6 _ rfl
     have d0 := a' 0 _ rfl
     have d1 := a' 1 _ rfl
     have d3 := a' 3 _ rfl
     have d4 := a' 4 _ rfl
     have d5 := a' 5 _ rfl
     have d6 := a' 6 _ rfl
     clear a a' be rx ry
     go_wp2_with fail
     exact ⟨⟨j + 1, rfl, by omega, SE.out⟩, by show os.length - ((j : Int) + 1).toNat < os.length - (j : Int).toNat; omega⟩
    ·have hj0 : (os.length : Int) ≤ (j : Int) := by omega
     obtain rfl : j = os.length := by omega
     go_wp2_with fail
     go_roundw
     case rel => exact ⟨k + 1, by go_num, by omega, SI.out⟩
     case measure => show R.length - ((k : Int) + 1).toNat < R.length - (k : Int).toNat; omega
  ·have hk0 : (R.length : Int) ≤ (k : Int) := by omega
   obtain rfl : k = R.length := by omega
   go_wp2_with fail
   go_ret
   exact ⟨rfl, HS.out.bel⟩
end Go.Proofs.Ytkoacclbempmdaa
