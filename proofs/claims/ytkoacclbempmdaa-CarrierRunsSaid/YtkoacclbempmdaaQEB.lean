/- The law CarrierRuns, by its walk. -/
import Derived.Test.YtkoacclbempmdaaQEA
import Derived.Test.YtkoacclbempmdaaGZL
namespace Go.Proofs.Ytkoacclbempmdaa
open Go.RowKit

theorem CourseIs.ok {ws : Wk} {l : List Rn} (h : CourseIs ws l 0) : WOk ws ∧ l.length ≤ 60 ∧ (∀ (j : Nat) (r : Rn), l[j]? = some r → RnOk ws r) ∧ CheckIs ws 0 := by
 rcases h with ⟨_, h⟩ | ⟨_, _, h⟩ | ⟨_, _, _, h⟩ | ⟨h1, h2, h3, _⟩
 ·exact absurd rfl h
 ·cases h
 ·cases h
 ·exact ⟨h1.ok, h2, h3, h1⟩
theorem CourseIs.part {ws : Wk} {l m : List Rn} (h : CourseIs ws l 0) (hm : ∀ r ∈ m, r ∈ l) (hl : m.length ≤ 60) : CourseIs ws m 0 :=
 .inr (.inr (.inr ⟨h.ok.2.2.2, hl, fun j r hj => by
  obtain ⟨k, hk⟩ := List.getElem?_of_mem (hm r (List.mem_of_getElem? hj))
  exact h.ok.2.2.1 k r hk, rfl⟩))

set_option maxHeartbeats 16000000 in
set_option maxRecDepth 1000000 in
theorem runs_law (A : Option Addr) (c : Nat) (AL : Option Addr) (cl : Nat) (ws : Wk) (l : List Rn) (cut at_ : Int) (w : World) (h : RK w.heap.size (.slice A ws.length c) ws w) (hl : RN w.heap.size (.slice AL l.length cl) l w) (hcap : l.length ≤ cl) (hcut : 0 ≤ cut ∧ cut ≤ 255) (hat : 0 ≤ at_ ∧ at_ ≤ 65535) :
  Calls Try.prog 7 #[.agg #[.slice A ws.length c], .slice AL l.length cl, .int .u8 cut, .int .u16 at_] w fun e w' => e = .returned (.bool true) ∧ Below w.heap.size w w' := by
 have H := Lib.hid h
 have HL := Lib.hid hl
 have HCUT := Lib.hid (And.intro hcut (And.intro hat hcap))
 have S := Lib.hid (WC1.new w (.slice A ws.length c))
 have hfit : (l.length : Int) ≤ 1000000000000000 := by have h : l.length ≤ 1000000000000000 := hl.fits; omega
 clear h hl hcut hat hcap
 go_enter Try.func7, Try.ntmps7
 have xx0 := S.out.wk
 go_wp2_with fail
 refine (few_any A ws.length c ws _ (H.out.up S.out.bel.size S.out.bel)).mono ?_
 rintro e wc1 ⟨b, rfl, hfew, bb⟩
 replace S := Lib.hid (S.out.below bb)
 clear bb xx0
 cases b
 ·clear hfew
  go_wp2_with fail
  refine (sanity_any _).mono ?_
  rintro e wz ⟨rfl, bz⟩
  have SZ := Lib.hid (S.out.below bz)
  clear bz
  go_wp2_with fail
  go_ret
  exact ⟨rfl, SZ.out.bel⟩
 have HT : Hid (total ws ≤ 90 ∧ ws.length ≤ 30) := Lib.hid (by have := hfew (by trivial); have h1 := this.1; have h2 := this.2.1; omega)
 clear hfew
 go_wp2_with fail
 refine (runs_any _ l _ (HL.out.up S.out.bel.size S.out.bel)).mono ?_
 rintro e wc2 ⟨b, rfl, -, bb⟩
 replace S := Lib.hid (S.out.below bb)
 clear bb 
 cases b
 ·skip
  go_wp2_with fail
  refine (sanity_any _).mono ?_
  rintro e wz ⟨rfl, bz⟩
  have SZ := Lib.hid (S.out.below bz)
  clear bz
  go_wp2_with fail
  go_ret
  exact ⟨rfl, SZ.out.bel⟩
 by_cases h6 : l.length ≤ 6
 rotate_left
 ·have h60 : 6 < (l.length : Int) := by omega
  go_wp2_with fail
  refine (sanity_any _).mono ?_
  rintro e wz ⟨rfl, bz⟩
  have SZ := Lib.hid (S.out.below bz)
  clear bz
  go_wp2_with fail
  go_ret
  exact ⟨rfl, SZ.out.bel⟩
 have h60 : (l.length : Int) ≤ 6 := by omega
 have H6 := Lib.hid h6
 obtain ⟨d, hd⟩ := CourseIs.exists_ ws l
 have HD := Lib.hid hd
 obtain ⟨L, hL⟩ : ∃ L, drunkL ws l = L := ⟨_, rfl⟩
 have HLE := Lib.hid hL
 have HLL : Hid (L.length = total ws) := Lib.hid (by rw [← hL]; exact drunkL_len _ _)
 have HT1 : Hid (total ws ≤ 100000) := Lib.hid (by have := HT.out; omega)
 have ED : Hid (∀ (m : List Rn) (mv : Value) W, CourseIs ws m 0 → Below w.heap.size w W → RN W.heap.size mv m W → Calls Try.prog 41 #[.agg #[.slice A ws.length c], mv] W fun e w' => ∃ U k, e = .returned (.tuple #[.slice U (total ws) k, .int .i64 0]) ∧ OwnG encI 1 3 W.heap.size (.slice U (total ws) k) (drunkL ws m) w' ∧ Below W.heap.size W w') := Lib.hid fun m mv W hm hb hr => by
  refine (Drunk_any _ _ ws m 0 W (H.out.up hb.size hb) HT1.out hr hm).mono ?_
  rintro e w' ⟨u, rfl, o, bb⟩
  rw [okL_zero] at o
  obtain ⟨U, k, rfl, -⟩ := o.form
  rw [drunkL_len] at o ⊢
  exact ⟨U, k, rfl, o, bb⟩
 clear hd hL
 by_cases hd0 : d = 0
 rotate_left
 ·have hdb : (d != 0) = true := by rw [bne_iff_ne]; exact hd0
  have xx0 := S.out.wk
  go_wp2_with fail
  refine (Drunk_any _ _ ws l d _ (H.out.up S.out.bel.size S.out.bel) HT1.out (HL.out.up S.out.bel.size S.out.bel) HD.out).mono ?_
  rintro e wc3 ⟨u, rfl, -, bb⟩
  replace S := Lib.hid (S.out.below bb)
  clear bb xx0
  go_wp2_with fail
  refine (sanity_any _).mono ?_
  rintro e wz ⟨rfl, bz⟩
  have SZ := Lib.hid (S.out.below bz)
  clear bz
  go_wp2_with fail
  go_ret
  exact ⟨rfl, SZ.out.bel⟩
 subst hd0
 have HW := Lib.hid HD.out.ok.1
 obtain ⟨nt, hnt⟩ : ∃ n, total ws = n := ⟨_, rfl⟩
 have HNT := Lib.hid hnt
 have hn60 : nt ≤ 60 := by rw [← hnt]; exact HW.out.tot
 have hn600 : (nt : Int) ≤ 60 := by omega
 rw [hnt] at ED HLL
 clear hnt
 have xx0 := S.out.wk
 go_wp2_with fail
 refine (ED.out l _ _ HD.out S.out.bel (HL.out.up S.out.bel.size S.out.bel)).mono ?_
 rintro e wc3 ⟨U0, k0, rfl, oo, bb⟩
 rw [HLE.out] at oo
 have O0 := Lib.hid oo
 replace S := Lib.hid (S.out.below bb)
 clear bb xx0 oo
 obtain ⟨kk, hkk⟩ : ∃ k : Nat, cut.tmod ((l.length : Int) + 1) = k := by
  have h3 := Int.emod_nonneg cut (show (l.length : Int) + 1 ≠ 0 by omega)
  rw [← Int.tmod_eq_emod_of_nonneg HCUT.out.1.1] at h3
  exact ⟨(cut.tmod ((l.length : Int) + 1)).toNat, by omega⟩
 have hkl : kk ≤ l.length := by
  have h4 := Int.emod_lt_of_pos cut (show 0 < (l.length : Int) + 1 by omega)
  rw [← Int.tmod_eq_emod_of_nonneg HCUT.out.1.1, hkk] at h4
  omega
 have m1 : ((l.length : Int) + 1) ≠ 0 := by omega
 have wu : IntKind.i64.wrap cut = cut := IntWalk.i64_in _ (by have := HCUT.out.1; omega)
 have w1 : IntKind.i64.wrap ((l.length : Int) + 1) = (l.length : Int) + 1 := IntWalk.i64_in _ (by omega)
 have w2 : IntKind.i64.wrap (kk : Int) = (kk : Int) := IntWalk.i64_in _ (by omega)
 have hkl0 : (kk : Int) ≤ (l.length : Int) := by omega
 have hkl1 : (kk : Int) ≤ (cl : Int) := by have := HCUT.out.2.2; omega
 have hkl2 : (0 : Int) ≤ (kk : Int) := by omega
 have hkl3 : (l.length : Int) ≤ (cl : Int) := by have := HCUT.out.2.2; omega
 have x0 := S.out.wk
 go_upto_region 7 with fail
 obtain ⟨X, hXr, hXR, hXok⟩ := HL.out.rr
 have hXl : X.length = l.length := by rw [← hXr, List.length_map]
 have HXX : Hid (X.map (·.r) = l ∧ RR encRr w.heap.size (.slice AL l.length cl) X w ∧ (∀ x ∈ X, x.ok w.heap.size w) ∧ X.length = l.length) := Lib.hid ⟨hXr, hXR, hXok, hXl⟩
 clear hXr hXR hXok hXl
 refine wp_region_held_drew (S := BelS wc3) (by kernel_rfl) (BelS.drew0 _) (fun J0 => ?_)
 refine tw 0 53 J0 ?_ (hy := by intro w' hSw; have r0 := hSw.c x0; go_simp; try with_reducible rfl)
 try simp only [aS]
 refine tw 2 55 J0 ?_
 try simp only [aS]
 refine tw 3 56 J0 ?_
 try simp only [aS]
 refine tw 4 57 J0 ?_
 try simp only [aS]
 refine wpAnyH_ready (rs := [1]) (by kernel_rfl) (by simp) ?_
 refine AllReadyH.cons rfl (fun K hK => ?_) AllReadyH.nil
 go_simp
 obtain ⟨wa, hwa⟩ : ∃ W_, (wc3.alloc (.cells #[] 78)).drew = W_ := ⟨_, rfl⟩
 obtain ⟨q, hq⟩ : ∃ q, wc3.heap.size = q := ⟨_, rfl⟩
 have qa : wa.heap[q]? = some (.cells #[] 78 (0, 0)) := by rw [← hwa, ← hq]; exact World.alloc_heap_new wc3 _
 have Ja : BelS wc3 wa := by rw [← hwa]; exact ((Below.refl _ _).alloc (Nat.le_refl _) _).drew
 have hqW : wc3.heap.size ≤ q := by omega
 rw [hwa]
 try rw [hq]
 clear hwa
 refine hK.out _ _ Ja (fun _ => ?_)
 clear hK K
 try simp only [aS]
 refine wpAnyH_ready (rs := [5]) (by kernel_rfl) (by simp) ?_
 refine AllReadyH.cons rfl (fun K hK => ?_) AllReadyH.nil
 have hPB : Below w.heap.size w wa := S.out.bel.trans ((BelS.b Ja).mono S.out.bel.size)
 have hPR : RR encRr w.heap.size (.slice AL (X.take kk).length cl) (X.take kk) w := (by have h9 := RR.take ERr (by have h8 := HXX.out.2.1; rw [← HXX.out.2.2.2] at h8; exact h8) (n := kk) (by rw [HXX.out.2.2.2]; exact hkl); rwa [show (X.take kk).length = kk by rw [List.length_take, HXX.out.2.2.2]; omega])
 have hPL : (X.take kk).length = kk := by rw [List.length_take, HXX.out.2.2.2]; omega
 have hPok : ∀ x ∈ X.take kk, x.ok w.heap.size w := fun x hx => HXX.out.2.2.1 x (List.mem_of_mem_take hx)
 obtain ⟨v', W', r1, o1, g1⟩ := copyR qa hqW hPR hPB (by rw [hPL]; have := H6.out; omega)
 rw [hPL] at r1
 have Jb : BelS wc3 W' := Ja.trans (g1.below (by intro b hb; simp at hb; omega) (by have := Below.size Ja; omega))
 have hWB : Below w.heap.size w W' := S.out.bel.trans ((BelS.b Jb).mono S.out.bel.size)
 have RM := own_rn o1 hPok hWB (by rw [hPL]; have := H6.out; omega)
 refine step_ap rfl _ _ _ _ rfl _ _ rfl rfl r1 ?_
 refine hK.out _ _ Jb (fun _ => ?_)
 clear hK K r1 o1 g1 qa hq
 try simp only [aS]
 refine wpAnyH_ready (rs := [6]) (by kernel_rfl) (by simp) ?_
 refine AllReadyH.cons rfl (fun K hK => ?_) AllReadyH.nil
 go_simp
 refine (ED.out (l.take kk) _ _ (HD.out.part (fun r hr => List.mem_of_mem_take hr) (by have := HD.out.ok.2.1; rw [List.length_take]; omega)) hWB (by have h9 := RM; rw [List.map_take, HXX.out.1] at h9; exact h9)).mono ?_
 rintro e wq ⟨U1, k1, rfl, oo, bq⟩
 have Jc := Jb.below bq
 refine hK.out _ _ Jc (fun _ => ?_)
 clear hK K
 try simp only [aS]
 refine tw 7 52 Jc ?_
 try simp only [aS]
 refine tw 8 60 Jc ?_
 try simp only [aS]
 refine tw 9 61 Jc ?_
 try simp only [aS]
 refine tw 10 12 Jc ?_
 try simp only [aS]
 refine tw 11 13 Jc ?_
 try simp only [aS]
 refine wpAnyH_done (by kernel_rfl) ?_ _
 have O1 := Lib.hid oo
 obtain ⟨wc4, hwq⟩ : ∃ W, wq = W := ⟨_, rfl⟩
 rw [hwq] at O1 Jc ⊢
 have bb : Below wc3.heap.size wc3 wc4 := BelS.b Jc
 replace S := Lib.hid (S.out.below bb)
 replace O0 := Lib.hid (O0.out.below bb)
 clear hwq oo J0 Ja Jb Jc bb bq RM hWB hPR hPL hPok hPB x0 hqW
 have x0 := S.out.wk
 go_upto_region 8 with fail
 refine wp_region_held_drew (S := BelS wc4) (by kernel_rfl) (BelS.drew0 _) (fun J0 => ?_)
 refine tw 0 63 J0 ?_ (hy := by intro w' hSw; have r0 := hSw.c x0; go_simp; try with_reducible rfl)
 try simp only [aS]
 refine tw 2 65 J0 ?_
 try simp only [aS]
 refine tw 3 66 J0 ?_
 try simp only [aS]
 obtain ⟨AD, hAD⟩ : ∃ x, (if cl = kk then AL else Option.map (fun x => x.add (kk * 5)) AL) = x := ⟨_, rfl⟩
 have HAD := Lib.hid hAD
 refine tw 4 67 J0 ?_
 try simp only [aS]
 try rw [hAD]
 clear hAD
 refine wpAnyH_ready (rs := [1]) (by kernel_rfl) (by simp) ?_
 refine AllReadyH.cons rfl (fun K hK => ?_) AllReadyH.nil
 go_simp
 obtain ⟨wa, hwa⟩ : ∃ W_, (wc4.alloc (.cells #[] 78)).drew = W_ := ⟨_, rfl⟩
 obtain ⟨q, hq⟩ : ∃ q, wc4.heap.size = q := ⟨_, rfl⟩
 have qa : wa.heap[q]? = some (.cells #[] 78 (0, 0)) := by rw [← hwa, ← hq]; exact World.alloc_heap_new wc4 _
 have Ja : BelS wc4 wa := by rw [← hwa]; exact ((Below.refl _ _).alloc (Nat.le_refl _) _).drew
 have hqW : wc4.heap.size ≤ q := by omega
 rw [hwa]
 try rw [hq]
 clear hwa
 refine hK.out _ _ Ja (fun _ => ?_)
 clear hK K
 try simp only [aS]
 refine wpAnyH_ready (rs := [5]) (by kernel_rfl) (by simp) ?_
 refine AllReadyH.cons rfl (fun K hK => ?_) AllReadyH.nil
 have hPB : Below w.heap.size w wa := S.out.bel.trans ((BelS.b Ja).mono S.out.bel.size)
 have hPR : RR encRr w.heap.size (.slice AD (l.length - kk) (cl - kk)) (X.drop kk) w := by have h9 := RR.dropA ERr HXX.out.2.1 HXX.out.2.2.2.symm HCUT.out.2.2 kk hkl; rw [HAD.out] at h9; exact h9
 have hPL : (X.drop kk).length = l.length - kk := by rw [List.length_drop, HXX.out.2.2.2]
 rw [← hPL] at hPR
 have hPok : ∀ x ∈ X.drop kk, x.ok w.heap.size w := fun x hx => HXX.out.2.2.1 x (List.mem_of_mem_drop hx)
 obtain ⟨v', W', r1, o1, g1⟩ := copyR qa hqW hPR hPB (by rw [hPL]; have := H6.out; omega)
 rw [hPL] at r1
 have Jb : BelS wc4 W' := Ja.trans (g1.below (by intro b hb; simp at hb; omega) (by have := Below.size Ja; omega))
 have hWB : Below w.heap.size w W' := S.out.bel.trans ((BelS.b Jb).mono S.out.bel.size)
 have RM := own_rn o1 hPok hWB (by rw [hPL]; have := H6.out; omega)
 refine step_ap rfl _ _ _ _ rfl _ _ rfl rfl r1 ?_
 refine hK.out _ _ Jb (fun _ => ?_)
 clear hK K r1 o1 g1 qa hq
 try simp only [aS]
 refine wpAnyH_ready (rs := [6]) (by kernel_rfl) (by simp) ?_
 refine AllReadyH.cons rfl (fun K hK => ?_) AllReadyH.nil
 go_simp
 refine (ED.out (l.drop kk) _ _ (HD.out.part (fun r hr => List.mem_of_mem_drop hr) (by have := HD.out.ok.2.1; rw [List.length_drop]; omega)) hWB (by have h9 := RM; rw [List.map_drop, HXX.out.1] at h9; exact h9)).mono ?_
 rintro e wq ⟨U2, k2, rfl, oo, bq⟩
 have Jc := Jb.below bq
 refine hK.out _ _ Jc (fun _ => ?_)
 clear hK K
 try simp only [aS]
 refine tw 7 62 Jc ?_
 try simp only [aS]
 refine tw 8 70 Jc ?_
 try simp only [aS]
 refine tw 9 71 Jc ?_
 try simp only [aS]
 refine tw 10 14 Jc ?_
 try simp only [aS]
 refine tw 11 15 Jc ?_
 try simp only [aS]
 refine wpAnyH_done (by kernel_rfl) ?_ _
 have O2 := Lib.hid oo
 obtain ⟨wc5, hwq⟩ : ∃ W, wq = W := ⟨_, rfl⟩
 rw [hwq] at O2 Jc ⊢
 have bb : Below wc4.heap.size wc4 wc5 := BelS.b Jc
 replace S := Lib.hid (S.out.below bb)
 replace O0 := Lib.hid (O0.out.below bb)
 replace O1 := Lib.hid (O1.out.below bb)
 clear hwq oo J0 Ja Jb Jc bb bq RM hWB hPR hPL hPok hPB x0 hqW
 have R0 := Lib.hid (O0.out.rr EI (by have := HLL.out; show L.length ≤ 1000000000000000; omega))
 have R1 := Lib.hid (O1.out.rr EI (by rw [drunkL_len, HNT.out]; show nt ≤ 1000000000000000; omega))
 have R2 := Lib.hid (O2.out.rr EI (by rw [drunkL_len, HNT.out]; show nt ≤ 1000000000000000; omega))
 go_wp2_with fail
 go_loopw [16] (fun i wr => ∃ j : Nat, i = .int .i64 j ∧ j ≤ nt ∧ Below wc5.heap.size wc5 wr) (fun i _ => nt - (intOf i).toNat)
 case atStart => exact ⟨0, rfl, by omega, Below.refl _ _⟩
 case round =>
  obtain ⟨j, rfl, hj, hb⟩ := hrel
  have HB := Lib.hid hb
  clear hb
  by_cases hjl : j < nt
  ·have hj0 : (j : Int) < (nt : Int) := by omega
   have hj1 : (0 : Int) ≤ (j : Int) := by omega
   obtain ⟨x, y, hx, hy, hxy⟩ := drunkL_parts ws l kk (i := j) (by rw [HNT.out]; exact hjl)
   rw [HLE.out] at hxy
   obtain ⟨b0, o0, e0, hb0, q0⟩ := (R0.out.up HB.out.size HB.out).int hxy
   obtain ⟨b1, o1, e1, hb1, q1⟩ := (R1.out.up HB.out.size HB.out).int hx
   obtain ⟨b2, o2, e2, hb2, q2⟩ := (R2.out.up HB.out.size HB.out).int hy
   have hbx := drunk_b HW.out HD.out.ok.2.2.1 j l.length
   have hv : x + y = drunkAt ws l j l.length := by
    have h9 := hxy
    rw [← HLE.out] at h9
    unfold drunkL at h9
    rw [List.getElem?_map, List.getElem?_range (by rw [HNT.out]; exact hjl)] at h9
    simpa using h9.symm
   have wxy : IntKind.i64.wrap (x + y) = x + y := IntWalk.i64_in _ (by rw [hv]; have := H6.out; have h8 : (l.length : Int) * 1099511627776 ≤ 6 * 1099511627776 := Int.mul_le_mul_of_nonneg_right (by omega) (by decide); omega)
   subst e0 e1 e2
   clear hx hy hxy hb0 hb1 hb2 hbx hv
   go_upto_region 14 with fail
   go_quiet (fail)
   go_wp2_with fail
   go_roundw
   case rel => exact ⟨j + 1, by go_num, by omega, HB.out.trans ((below_drewN (Below.refl _ _) _).mono HB.out.size)⟩
   case measure => show nt - ((j : Int) + 1).toNat < nt - (j : Int).toNat; omega
  ·have hj0 : (nt : Int) ≤ (j : Int) := by omega
   obtain rfl : j = nt := by omega
   replace S := Lib.hid (S.out.below HB.out)
   replace O0 := Lib.hid (O0.out.below HB.out)
   clear R0 R1 R2 O1 O2
   by_cases hke : kk = l.length
   ·have hke0 : ((kk : Int) == (l.length : Int)) = true := by rw [beq_iff_eq]; omega
    go_wp2_with fail
    refine (sanity_any _).mono ?_
    rintro e wz ⟨rfl, bz⟩
    have SZ := Lib.hid (S.out.below bz)
    clear bz
    go_wp2_with fail
    go_ret
    exact ⟨rfl, SZ.out.bel⟩
   have hke0 : ((kk : Int) == (l.length : Int)) = false := by rw [beq_eq_false_iff_ne]; omega
   have hkt : kk < l.length := by omega
   have hkt0 : (kk : Int) < (l.length : Int) := by omega
   obtain ⟨r, hr⟩ : ∃ r, l[kk]? = some r := ⟨_, List.getElem?_eq_getElem hkt⟩
   have HR := Lib.hid hr
   have hrok := HD.out.ok.2.2.1 kk r hr
   obtain ⟨b, o, hAL, hbl, p0, A1, c1, A2, c2, A3, c3, A4, c4, p1, p2, p3, p4, p5⟩ := rn_at HL.out hr
   have HP := Lib.hid (And.intro hAL (And.intro hbl (And.intro p0 (And.intro p1 (And.intro p2 (And.intro p3 (And.intro p4 p5)))))))
   obtain ⟨mn, hmn⟩ : ∃ m, r.mn = m := ⟨_, rfl⟩
   have HMN := Lib.hid hmn
   have hmb : 1 ≤ mn ∧ mn ≤ 1048576 := by rw [← hmn]; exact hrok.1
   subst hAL
   rw [hmn] at p0
   have x1 := (S.out.bel.cell (p := ⟨b, o + kk * 5, none⟩) hbl).trans p0
   clear p0 p1 p2 p3 p4 p5 hr hrok hmn
   by_cases hm2 : mn < 2
   ·have hm2b : decide (mn < 2) = true := decide_eq_true hm2
    go_wp2_with fail
    refine (sanity_any _).mono ?_
    rintro e wz ⟨rfl, bz⟩
    have SZ := Lib.hid (S.out.below bz)
    clear bz
    go_wp2_with fail
    go_ret
    exact ⟨rfl, SZ.out.bel⟩
   have hm2b : decide (mn < 2) = false := decide_eq_false hm2
   obtain ⟨t9, ht9⟩ : ∃ t, at_.tmod (mn - 1) = t := ⟨_, rfl⟩
   have htb : 0 ≤ t9 ∧ t9 ≤ mn - 2 := by
    have h3 := Int.emod_nonneg at_ (show mn - 1 ≠ 0 by omega)
    have h4 := Int.emod_lt_of_pos at_ (show 0 < mn - 1 by omega)
    rw [← Int.tmod_eq_emod_of_nonneg HCUT.out.2.1.1, ht9] at h3 h4
    omega
   have hat := HCUT.out.2.1
   have v1 : IntKind.i64.wrap at_ = at_ := IntWalk.i64_in _ (by omega)
   have v2 : IntKind.i64.wrap (mn - 1) = mn - 1 := IntWalk.i64_in _ (by omega)
   have v3 : mn - 1 ≠ 0 := by omega
   have v4 : IntKind.i64.wrap t9 = t9 := IntWalk.i64_in _ (by omega)
   have v5 : IntKind.i64.wrap (1 + t9) = 1 + t9 := IntWalk.i64_in _ (by omega)
   obtain ⟨nn, hnn⟩ : ∃ n, 1 + t9 = n := ⟨_, rfl⟩
   have v6 : IntKind.i64.wrap (mn - nn) = mn - nn := IntWalk.i64_in _ (by omega)
   have hnb : 1 ≤ nn ∧ nn ≤ mn - 1 := by omega
   have x2 := (S.out.bel.cell (p := ⟨b, o + kk * 5 + 1, none⟩) HP.out.2.1).trans HP.out.2.2.2.1
   have x3 := (S.out.bel.cell (p := ⟨b, o + kk * 5 + 1 + 1, none⟩) HP.out.2.1).trans HP.out.2.2.2.2.1
   have x4 := (S.out.bel.cell (p := ⟨b, o + kk * 5 + 1 + 2, none⟩) HP.out.2.1).trans HP.out.2.2.2.2.2.1
   have x5 := (S.out.bel.cell (p := ⟨b, o + kk * 5 + 1 + 3, none⟩) HP.out.2.1).trans HP.out.2.2.2.2.2.2.1
   have HNB := Lib.hid hnb
   go_upto_region 20 with fail
   obtain ⟨wf, hwf⟩ : ∃ W, wr.alloc (.cells #[.int .i64 nn, .slice A1 r.wa.river.length c1, .slice A2 r.wa.boards.length c2, .slice A3 r.wa.leaks.length c3, .slice A4 r.wa.losses.length c4] 78) = W := ⟨_, rfl⟩
   have bf : Below wr.heap.size wr wf := by rw [← hwf]; exact (Below.refl _ _).alloc (Nat.le_refl _) _
   have F0 : wf.cell? ⟨wr.heap.size, 0, none⟩ = some (.int .i64 nn) := by rw [← hwf]; simp [go_sem]
   have F1 : wf.cell? ⟨wr.heap.size, 1, none⟩ = some (.slice A1 r.wa.river.length c1) := by rw [← hwf]; simp [go_sem]
   have F2 : wf.cell? ⟨wr.heap.size, 2, none⟩ = some (.slice A2 r.wa.boards.length c2) := by rw [← hwf]; simp [go_sem]
   have F3 : wf.cell? ⟨wr.heap.size, 3, none⟩ = some (.slice A3 r.wa.leaks.length c3) := by rw [← hwf]; simp [go_sem]
   have F4 : wf.cell? ⟨wr.heap.size, 4, none⟩ = some (.slice A4 r.wa.losses.length c4) := by rw [← hwf]; simp [go_sem]
   have FF := Lib.hid (And.intro F0 (And.intro F1 (And.intro F2 (And.intro F3 F4))))
   replace S := Lib.hid (S.out.below bf)
   replace O0 := Lib.hid (O0.out.below bf)
   have HWF := Lib.hid hwf
   clear F0 F1 F2 F3 F4 hwf bf x1 x2 x3 x4 x5
   rw [HWF.out]
   have x1 := (S.out.bel.cell (p := ⟨b, o + kk * 5, none⟩) HP.out.2.1).trans (HP.out.2.2.1.trans (by rw [HMN.out]))
   have x2 := (S.out.bel.cell (p := ⟨b, o + kk * 5 + 1, none⟩) HP.out.2.1).trans HP.out.2.2.2.1
   have x3 := (S.out.bel.cell (p := ⟨b, o + kk * 5 + 1 + 1, none⟩) HP.out.2.1).trans HP.out.2.2.2.2.1
   have x4 := (S.out.bel.cell (p := ⟨b, o + kk * 5 + 1 + 2, none⟩) HP.out.2.1).trans HP.out.2.2.2.2.2.1
   have x5 := (S.out.bel.cell (p := ⟨b, o + kk * 5 + 1 + 3, none⟩) HP.out.2.1).trans HP.out.2.2.2.2.2.2.1
   obtain ⟨hx1, hx2, hx3, hx4, hx5⟩ := And.intro x1 (And.intro x2 (And.intro x3 (And.intro x4 x5)))
   have hbf : b < wf.heap.size := Nat.lt_of_lt_of_le HP.out.2.1 S.out.bel.size
   have bz := (Below.refl wf.heap.size wf).alloc (Nat.le_refl _) (.cells #[.int .i64 0, .slice none 0 0, .slice none 0 0, .slice none 0 0, .slice none 0 0] 78)
   have y1 := (bz.cell (p := ⟨b, o + kk * 5, none⟩) hbf).trans x1
   have y2 := (bz.cell (p := ⟨b, o + kk * 5 + 1, none⟩) hbf).trans x2
   have y3 := (bz.cell (p := ⟨b, o + kk * 5 + 1 + 1, none⟩) hbf).trans x3
   have y4 := (bz.cell (p := ⟨b, o + kk * 5 + 1 + 2, none⟩) hbf).trans x4
   have y5 := (bz.cell (p := ⟨b, o + kk * 5 + 1 + 3, none⟩) hbf).trans x5
   clear hx1 hx2 hx3 hx4 hx5 bz
   go_region
   obtain ⟨wg, hwg⟩ : ∃ W, (wf.alloc (.cells #[.int .i64 (mn - nn), .slice A1 r.wa.river.length c1, .slice A2 r.wa.boards.length c2, .slice A3 r.wa.leaks.length c3, .slice A4 r.wa.losses.length c4] 78)).drew = W := ⟨_, rfl⟩
   have bg : Below wf.heap.size wf wg := by rw [← hwg]; exact ((Below.refl _ _).alloc (Nat.le_refl _) _).drew
   have G0 : wg.cell? ⟨wf.heap.size, 0, none⟩ = some (.int .i64 (mn - nn)) := by rw [← hwg]; simp [go_sem]
   have G1 : wg.cell? ⟨wf.heap.size, 1, none⟩ = some (.slice A1 r.wa.river.length c1) := by rw [← hwg]; simp [go_sem]
   have G2 : wg.cell? ⟨wf.heap.size, 2, none⟩ = some (.slice A2 r.wa.boards.length c2) := by rw [← hwg]; simp [go_sem]
   have G3 : wg.cell? ⟨wf.heap.size, 3, none⟩ = some (.slice A3 r.wa.leaks.length c3) := by rw [← hwg]; simp [go_sem]
   have G4 : wg.cell? ⟨wf.heap.size, 4, none⟩ = some (.slice A4 r.wa.losses.length c4) := by rw [← hwg]; simp [go_sem]
   have hlf : wr.heap.size < wf.heap.size := World.block_lt_of_cell? _ _ FF.out.1
   have up5 := fun (i : Nat) u (h : wf.cell? ⟨wr.heap.size, i, none⟩ = some u) => (bg.cell (p := ⟨wr.heap.size, i, none⟩) hlf).trans h
   have GG := Lib.hid (And.intro (And.intro (up5 _ _ FF.out.1) (And.intro (up5 _ _ FF.out.2.1) (And.intro (up5 _ _ FF.out.2.2.1) (And.intro (up5 _ _ FF.out.2.2.2.1) (up5 _ _ FF.out.2.2.2.2))))) (And.intro G0 (And.intro G1 (And.intro G2 (And.intro G3 G4)))))
   replace S := Lib.hid (S.out.below bg)
   replace O0 := Lib.hid (O0.out.below bg)
   obtain ⟨X2, hX2⟩ : ∃ X2 : List Rr, X2 = [(⟨⟨nn, r.wa⟩, A1, c1, A2, c2, A3, c3, A4, c4⟩ : Rr), ⟨⟨mn - nn, r.wa⟩, A1, c1, A2, c2, A3, c3, A4, c4⟩] := ⟨_, rfl⟩
   have HX2 := Lib.hid hX2
   have X3OK : Hid (∀ x ∈ X.take kk ++ X2 ++ X.drop (kk + 1), x.ok w.heap.size w) := Lib.hid fun x hx => by
    rcases List.mem_append.1 hx with hx | hx
    ·rcases List.mem_append.1 hx with hx | hx
     ·exact HXX.out.2.2.1 x (List.mem_of_mem_take hx)
     ·rw [HX2.out] at hx
      rcases List.mem_cons.1 hx with rfl | hx
      ·exact HP.out.2.2.2.2.2.2.2
      ·rw [List.mem_singleton] at hx
       subst hx
       exact HP.out.2.2.2.2.2.2.2
    ·exact HXX.out.2.2.1 x (List.mem_of_mem_drop hx)
   have X3R : Hid ((X.take kk ++ X2 ++ X.drop (kk + 1)).map (·.r) = cutR l kk r nn) := Lib.hid (by
    rw [HX2.out]
    unfold cutR
    rw [List.map_append, List.map_append, List.map_take, List.map_drop, HXX.out.1, ← HMN.out]
    rfl)
   rw [hwg]
   clear hwg bg G0 G1 G2 G3 G4 hlf up5 FF HWF hX2 x1 x2 x3 x4 x5 y1 y2 y3 y4 y5 hbf v1 v2 v3 v4 v5 v6 ht9 hnn htb hat hnb hm2 hm2b
   have hk1 : IntKind.i64.wrap ((kk : Int) + 1) = (kk : Int) + 1 := IntWalk.i64_in _ (by omega)
   have hkl4 : (kk : Int) + 1 ≤ (l.length : Int) := by omega
   have hkl5 : (0 : Int) ≤ (kk : Int) + 1 := by omega
   have hkl6 : (kk : Int) + 1 ≤ (cl : Int) := by omega
   go_upto_region 21 with fail
   go_cut [20] (fun v wx => RN wx.heap.size v (cutR l kk r nn) wx ∧ WC1 w (.slice A ws.length c) wx ∧ OwnG encI 1 3 wc2.heap.size (.slice U0 j k0) L wx)
   case first =>
    obtain ⟨Wd, hWd⟩ : ∃ Wd, wg.drew = Wd := ⟨_, rfl⟩
    have bD : Below wg.heap.size wg Wd := by rw [← hWd]; exact (Below.refl _ _).drew
    have SD := Lib.hid (S.out.below bD)
    have OD := Lib.hid (O0.out.below bD)
    have GD := Lib.hid (And.intro (And.intro (BelS.c bD GG.out.1.1) (And.intro (BelS.c bD GG.out.1.2.1) (And.intro (BelS.c bD GG.out.1.2.2.1) (And.intro (BelS.c bD GG.out.1.2.2.2.1) (BelS.c bD GG.out.1.2.2.2.2))))) (And.intro (BelS.c bD GG.out.2.1) (And.intro (BelS.c bD GG.out.2.2.1) (And.intro (BelS.c bD GG.out.2.2.2.1) (And.intro (BelS.c bD GG.out.2.2.2.2.1) (BelS.c bD GG.out.2.2.2.2.2))))))
    have HWd := Lib.hid hWd
    clear hWd bD
    refine wp_region_T 14 (S := BelS Wd) (by kernel_rfl) (by rw [HWd.out]; exact Below.refl _ _) (fun J0 => ?_)
    rw [HWd.out] at J0 ⊢
    refine tt 1 156 J0 ?_
    try simp only [aS]
    refine tt 2 157 J0 ?_
    try simp only [aS]
    refine tt 3 158 J0 ?_
    try simp only [aS]
    refine tt 5 160 J0 ?_ (hy := by intro w' hSw; have r0 := hSw.c GD.out.1.1; have r1 := hSw.c GD.out.1.2.1; have r2 := hSw.c GD.out.1.2.2.1; have r3 := hSw.c GD.out.1.2.2.2.1; have r4 := hSw.c GD.out.1.2.2.2.2; go_simp; try with_reducible rfl)
    try simp only [aS]
    refine tt 6 161 J0 ?_ (hy := by intro w' hSw; have r0 := hSw.c GD.out.2.1; have r1 := hSw.c GD.out.2.2.1; have r2 := hSw.c GD.out.2.2.2.1; have r3 := hSw.c GD.out.2.2.2.2.1; have r4 := hSw.c GD.out.2.2.2.2.2; go_simp; try with_reducible rfl)
    try simp only [aS]
    refine tt 9 164 J0 ?_
    try simp only [aS]
    refine tt 10 165 J0 ?_
    try simp only [aS]
    refine tt 11 166 J0 ?_
    try simp only [aS]
    refine tt 12 167 J0 ?_
    try simp only [aS]
    obtain ⟨AD2, hAD2⟩ : ∃ x, (if cl = kk + 1 then some (⟨b, o, none⟩ : Addr) else some ⟨b, o + (kk + 1) * 5, none⟩) = x := ⟨_, rfl⟩
    have hDR : RR encRr w.heap.size (.slice AD2 (l.length - (kk + 1)) (cl - (kk + 1))) (X.drop (kk + 1)) w := by
     have h9 := RR.dropA ERr HXX.out.2.1 HXX.out.2.2.2.symm HCUT.out.2.2 (kk + 1) (by omega)
     have e : (if cl = kk + 1 then some (⟨b, o, none⟩ : Addr) else Option.map (fun x : Addr => x.add ((kk + 1) * 5)) (some ⟨b, o, none⟩)) = AD2 := by rw [← hAD2]; simp [Addr.add]
     rw [e] at h9
     exact h9
    have hDL : (X.drop (kk + 1)).length = l.length - (kk + 1) := by rw [List.length_drop, HXX.out.2.2.2]
    rw [← hDL] at hDR
    have HDR := Lib.hid (And.intro hDR hDL)
    rw [hAD2]
    have hPR : RR encRr w.heap.size (.slice (some ⟨b, o, none⟩) (X.take kk).length cl) (X.take kk) w := (by have h9 := RR.take ERr (by have h8 := HXX.out.2.1; rw [← HXX.out.2.2.2] at h8; exact h8) (n := kk) (by rw [HXX.out.2.2.2]; exact hkl); rwa [show (X.take kk).length = kk by rw [List.length_take, HXX.out.2.2.2]; omega])
    have hPL : (X.take kk).length = kk := by rw [List.length_take, HXX.out.2.2.2]; omega
    have HPR := Lib.hid (And.intro hPR hPL)
    have HBD : Hid (Below w.heap.size w Wd) := Lib.hid SD.out.bel
    clear hAD2 hDR hDL hPR hPL
    refine twoT (i := 0) (j := 7) (by kernel_rfl) rfl rfl (fun K hK => ?_) (fun K hK => ?_)
    ·go_simp
     obtain ⟨wx1, hwx1⟩ : ∃ W_, Wd.alloc (.cells #[] 78) = W_ := ⟨_, rfl⟩
     have bwx1 : Below Wd.heap.size Wd wx1 := by rw [← hwx1]; exact (Below.refl _ _).alloc (Nat.le_refl _) _
     obtain ⟨q0, hq0⟩ : ∃ q, Wd.heap.size = q := ⟨_, rfl⟩
     have qa : wx1.heap[q0]? = some (.cells #[] 78 (0, 0)) := by rw [← hwx1, ← hq0]; exact World.alloc_heap_new Wd _
     have q0W : Wd.heap.size ≤ q0 := by have := Below.size J0; omega
     have J1 : BelS Wd wx1 := J0.below bwx1
     rw [hwx1]
     try rw [hq0]
     have Bwx1 := Lib.hid bwx1
     have HQ0 := Lib.hid hq0
     clear hwx1 bwx1 hq0
     refine hK.out _ _ J1 ?_
     clear hK K
     try simp only [aS]
     refine twoT (i := 4) (j := 7) (by kernel_rfl) rfl rfl (fun K hK => ?_) (fun K hK => ?_)
     ·obtain ⟨v1, wx2, r1, o1, g1⟩ := copyR qa q0W HPR.out.1 (HBD.out.trans ((BelS.b J1).mono HBD.out.size)) (by rw [HPR.out.2]; have := H6.out; omega)
      rw [HPR.out.2] at r1
      have J2 : BelS Wd wx2 := J1.trans (g1.below (by intro b hb; simp at hb; omega) (by have := Below.size J1; omega))
      refine step_ap rfl _ _ _ _ rfl (.slice (some ⟨q0, 0, none⟩) 0 0) (.slice (some ⟨b, o, none⟩) kk cl) rfl rfl r1 ?_
      refine hK.out _ _ J2 ?_
      clear hK K
      try simp only [aS]
      clear r1
      refine oneT (i := 7) (by kernel_rfl) rfl (fun K hK => ?_)
      go_simp
      obtain ⟨wx3, hwx3⟩ : ∃ W_, wx2.alloc (.cells #[Value.int .i64 nn, .slice A1 r.wa.river.length c1, .slice A2 r.wa.boards.length c2, .slice A3 r.wa.leaks.length c3, .slice A4 r.wa.losses.length c4, .int .i64 (mn - nn), .slice A1 r.wa.river.length c1, .slice A2 r.wa.boards.length c2, .slice A3 r.wa.leaks.length c3, .slice A4 r.wa.losses.length c4] 78) = W_ := ⟨_, rfl⟩
      have bwx3 : Below wx2.heap.size wx2 wx3 := by rw [← hwx3]; exact (Below.refl _ _).alloc (Nat.le_refl _) _
      obtain ⟨q7, hq7⟩ : ∃ q, wx2.heap.size = q := ⟨_, rfl⟩
      have q7W : Wd.heap.size ≤ q7 := by have := Below.size J2; omega
      have z7 : q7 < wx3.heap.size := by rw [← hwx3, ← hq7]; simp
      have q7r : RR encRr wx3.heap.size (.slice (some ⟨q7, 0, none⟩) X2.length 2) X2 wx3 := by
       rw [HX2.out]
       refine ⟨some ⟨q7, 0, none⟩, 2, rfl, by simp, fun _ => ⟨q7, 0, rfl, by rw [← hwx3, ← hq7]; simp, fun j u hj => ?_⟩⟩
       rw [← hwx3, ← hq7, Nat.zero_add]
       match j, hj with
       | 0, hj => cases hj; simp [go_sem]
       | 1, hj => cases hj; simp [go_sem]
       | 2, hj => cases hj; simp [go_sem]
       | 3, hj => cases hj; simp [go_sem]
       | 4, hj => cases hj; simp [go_sem]
       | 5, hj => cases hj; simp [go_sem]
       | 6, hj => cases hj; simp [go_sem]
       | 7, hj => cases hj; simp [go_sem]
       | 8, hj => cases hj; simp [go_sem]
       | 9, hj => cases hj; simp [go_sem]
       | j + 10, hj => simp [encRr, Rr.cells] at hj
      have J3 : BelS Wd wx3 := J2.below bwx3
      rw [hwx3]
      try rw [hq7]
      have HQ7 := Lib.hid hq7
      have Bwx3 := Lib.hid bwx3
      clear hwx3 bwx3 hq7
      refine hK.out _ _ J3 ?_
      clear hK K
      try simp only [aS]
      replace o1 := o1.below Bwx3.out
      refine oneT (i := 8) (by kernel_rfl) rfl (fun K hK => ?_)
      obtain ⟨A9, c9, rfl, -⟩ := o1.form
      obtain ⟨v2, wx4, r2, o2, g2⟩ := appR (w := wx3) o1 q7r (Below.refl _ _) (Below.size J3) (by rw [HPR.out.2]; have := H6.out; omega) (by rw [HX2.out]; simp)
      have J4 : BelS Wd wx4 := J3.trans (g2.below (by intro b hb; have := (o1.lt b (by simpa using hb)).1; omega) (Below.size J3))
      have e2 : X2.length = 2 := by rw [HX2.out]; rfl
      rw [e2] at r2
      refine step_ap rfl _ _ _ _ rfl (.slice A9 (X.take kk).length c9) (.slice (some ⟨q7, 0, none⟩) 2 2) rfl rfl r2 ?_
      refine hK.out _ _ J4 ?_
      clear hK K
      try simp only [aS]
      clear r2 e2
      obtain ⟨A8, c8, rfl, -⟩ := o2.form
      obtain ⟨v3, wx5, r3, o3, g3⟩ := appR (w := w) o2 HDR.out.1 (HBD.out.trans ((BelS.b J4).mono HBD.out.size)) (Below.size J4) (by rw [List.length_append, HPR.out.2, HX2.out]; have := H6.out; simp; omega) (by rw [HDR.out.2]; have := H6.out; omega)
      rw [HDR.out.2] at r3
      have J5 : BelS Wd wx5 := J4.trans (g3.below (by intro b hb; have := (o2.lt b (by simpa using hb)).1; omega) (Below.size J4))
      refine oneT (i := 13) (by kernel_rfl) rfl (fun K hK => ?_)
      refine step_ap rfl _ _ _ _ rfl (.slice A8 (X.take kk ++ X2).length c8) (.slice AD2 (l.length - (kk + 1)) (cl - (kk + 1))) rfl rfl r3 ?_
      refine hK.out _ _ J5 ?_
      clear hK K
      try simp only [aS]
      clear r3
      refine lastT (by kernel_rfl) rfl (fun K hK => ?_)
      go_simp
      refine hK.out _ _ ?_
      clear hK K
      try simp only [aS]
      refine doneT (by kernel_rfl) ?_ _
      have ER := Lib.hid (own_rn o3 X3OK.out (HBD.out.trans ((BelS.b J5).mono HBD.out.size)) (by rw [List.length_append, List.length_append, HPR.out.2, HDR.out.2, HX2.out]; have := H6.out; simp; omega))
      have ES := Lib.hid (SD.out.below (BelS.b J5))
      have EO := Lib.hid (OD.out.below (BelS.b J5))
      rw [X3R.out] at ER
      go_wp2_with fail
      go_meet
      exact ⟨ER.out, ES.out, EO.out⟩
     ·have z0 : q0 < wx1.heap.size := (Array.getElem?_eq_some_iff.1 qa).1
      go_simp
      obtain ⟨wx6, hwx6⟩ : ∃ W_, wx1.alloc (.cells #[Value.int .i64 nn, .slice A1 r.wa.river.length c1, .slice A2 r.wa.boards.length c2, .slice A3 r.wa.leaks.length c3, .slice A4 r.wa.losses.length c4, .int .i64 (mn - nn), .slice A1 r.wa.river.length c1, .slice A2 r.wa.boards.length c2, .slice A3 r.wa.leaks.length c3, .slice A4 r.wa.losses.length c4] 78) = W_ := ⟨_, rfl⟩
      have bwx6 : Below wx1.heap.size wx1 wx6 := by rw [← hwx6]; exact (Below.refl _ _).alloc (Nat.le_refl _) _
      obtain ⟨q7, hq7⟩ : ∃ q, wx1.heap.size = q := ⟨_, rfl⟩
      have q7W : Wd.heap.size ≤ q7 := by have := Below.size J1; omega
      have z7 : q7 < wx6.heap.size := by rw [← hwx6, ← hq7]; simp
      have q7r : RR encRr wx6.heap.size (.slice (some ⟨q7, 0, none⟩) X2.length 2) X2 wx6 := by
       rw [HX2.out]
       refine ⟨some ⟨q7, 0, none⟩, 2, rfl, by simp, fun _ => ⟨q7, 0, rfl, by rw [← hwx6, ← hq7]; simp, fun j u hj => ?_⟩⟩
       rw [← hwx6, ← hq7, Nat.zero_add]
       match j, hj with
       | 0, hj => cases hj; simp [go_sem]
       | 1, hj => cases hj; simp [go_sem]
       | 2, hj => cases hj; simp [go_sem]
       | 3, hj => cases hj; simp [go_sem]
       | 4, hj => cases hj; simp [go_sem]
       | 5, hj => cases hj; simp [go_sem]
       | 6, hj => cases hj; simp [go_sem]
       | 7, hj => cases hj; simp [go_sem]
       | 8, hj => cases hj; simp [go_sem]
       | 9, hj => cases hj; simp [go_sem]
       | j + 10, hj => simp [encRr, Rr.cells] at hj
      have J6 : BelS Wd wx6 := J1.below bwx6
      rw [hwx6]
      try rw [hq7]
      have HQ7 := Lib.hid hq7
      have Bwx6 := Lib.hid bwx6
      clear hwx6 bwx6 hq7
      refine hK.out _ _ J6 ?_
      clear hK K
      try simp only [aS]
      replace qa := ((GrownL.of_below (bs := []) Bwx6.out).block q0 (Array.getElem?_eq_some_iff.1 qa).1 (by simp)).trans qa
      refine oneT (i := 4) (by kernel_rfl) rfl (fun K hK => ?_)
      obtain ⟨v1, wx7, r1, o1, g1⟩ := copyR qa q0W HPR.out.1 (HBD.out.trans ((BelS.b J6).mono HBD.out.size)) (by rw [HPR.out.2]; have := H6.out; omega)
      rw [HPR.out.2] at r1
      have J7 : BelS Wd wx7 := J6.trans (g1.below (by intro b hb; simp at hb; omega) (by have := Below.size J6; omega))
      refine step_ap rfl _ _ _ _ rfl (.slice (some ⟨q0, 0, none⟩) 0 0) (.slice (some ⟨b, o, none⟩) kk cl) rfl rfl r1 ?_
      refine hK.out _ _ J7 ?_
      clear hK K
      try simp only [aS]
      clear r1
      have q7r := q7r.grown g1 (fun b hb => by have := HQ7.out; cases hb; simp; omega)
      refine oneT (i := 8) (by kernel_rfl) rfl (fun K hK => ?_)
      obtain ⟨A9, c9, rfl, -⟩ := o1.form
      obtain ⟨v2, wx8, r2, o2, g2⟩ := appR (w := wx7) o1 q7r (Below.refl _ _) (Below.size J7) (by rw [HPR.out.2]; have := H6.out; omega) (by rw [HX2.out]; simp)
      have J8 : BelS Wd wx8 := J7.trans (g2.below (by intro b hb; have := (o1.lt b (by simpa using hb)).1; omega) (Below.size J7))
      have e2 : X2.length = 2 := by rw [HX2.out]; rfl
      rw [e2] at r2
      refine step_ap rfl _ _ _ _ rfl (.slice A9 (X.take kk).length c9) (.slice (some ⟨q7, 0, none⟩) 2 2) rfl rfl r2 ?_
      refine hK.out _ _ J8 ?_
      clear hK K
      try simp only [aS]
      clear r2 e2
      obtain ⟨A8, c8, rfl, -⟩ := o2.form
      obtain ⟨v3, wx9, r3, o3, g3⟩ := appR (w := w) o2 HDR.out.1 (HBD.out.trans ((BelS.b J8).mono HBD.out.size)) (Below.size J8) (by rw [List.length_append, HPR.out.2, HX2.out]; have := H6.out; simp; omega) (by rw [HDR.out.2]; have := H6.out; omega)
      rw [HDR.out.2] at r3
      have J9 : BelS Wd wx9 := J8.trans (g3.below (by intro b hb; have := (o2.lt b (by simpa using hb)).1; omega) (Below.size J8))
      refine oneT (i := 13) (by kernel_rfl) rfl (fun K hK => ?_)
      refine step_ap rfl _ _ _ _ rfl (.slice A8 (X.take kk ++ X2).length c8) (.slice AD2 (l.length - (kk + 1)) (cl - (kk + 1))) rfl rfl r3 ?_
      refine hK.out _ _ J9 ?_
      clear hK K
      try simp only [aS]
      clear r3
      refine lastT (by kernel_rfl) rfl (fun K hK => ?_)
      go_simp
      refine hK.out _ _ ?_
      clear hK K
      try simp only [aS]
      refine doneT (by kernel_rfl) ?_ _
      have ER := Lib.hid (own_rn o3 X3OK.out (HBD.out.trans ((BelS.b J9).mono HBD.out.size)) (by rw [List.length_append, List.length_append, HPR.out.2, HDR.out.2, HX2.out]; have := H6.out; simp; omega))
      have ES := Lib.hid (SD.out.below (BelS.b J9))
      have EO := Lib.hid (OD.out.below (BelS.b J9))
      rw [X3R.out] at ER
      go_wp2_with fail
      go_meet
      exact ⟨ER.out, ES.out, EO.out⟩
    ·go_simp
     obtain ⟨wx10, hwx10⟩ : ∃ W_, Wd.alloc (.cells #[Value.int .i64 nn, .slice A1 r.wa.river.length c1, .slice A2 r.wa.boards.length c2, .slice A3 r.wa.leaks.length c3, .slice A4 r.wa.losses.length c4, .int .i64 (mn - nn), .slice A1 r.wa.river.length c1, .slice A2 r.wa.boards.length c2, .slice A3 r.wa.leaks.length c3, .slice A4 r.wa.losses.length c4] 78) = W_ := ⟨_, rfl⟩
     have bwx10 : Below Wd.heap.size Wd wx10 := by rw [← hwx10]; exact (Below.refl _ _).alloc (Nat.le_refl _) _
     obtain ⟨q7, hq7⟩ : ∃ q, Wd.heap.size = q := ⟨_, rfl⟩
     have q7W : Wd.heap.size ≤ q7 := by have := Below.size J0; omega
     have z7 : q7 < wx10.heap.size := by rw [← hwx10, ← hq7]; simp
     have q7r : RR encRr wx10.heap.size (.slice (some ⟨q7, 0, none⟩) X2.length 2) X2 wx10 := by
      rw [HX2.out]
      refine ⟨some ⟨q7, 0, none⟩, 2, rfl, by simp, fun _ => ⟨q7, 0, rfl, by rw [← hwx10, ← hq7]; simp, fun j u hj => ?_⟩⟩
      rw [← hwx10, ← hq7, Nat.zero_add]
      match j, hj with
      | 0, hj => cases hj; simp [go_sem]
      | 1, hj => cases hj; simp [go_sem]
      | 2, hj => cases hj; simp [go_sem]
      | 3, hj => cases hj; simp [go_sem]
      | 4, hj => cases hj; simp [go_sem]
      | 5, hj => cases hj; simp [go_sem]
      | 6, hj => cases hj; simp [go_sem]
      | 7, hj => cases hj; simp [go_sem]
      | 8, hj => cases hj; simp [go_sem]
      | 9, hj => cases hj; simp [go_sem]
      | j + 10, hj => simp [encRr, Rr.cells] at hj
     have J10 : BelS Wd wx10 := J0.below bwx10
     rw [hwx10]
     try rw [hq7]
     have HQ7 := Lib.hid hq7
     have Bwx10 := Lib.hid bwx10
     clear hwx10 bwx10 hq7
     refine hK.out _ _ J10 ?_
     clear hK K
     try simp only [aS]
     refine oneT (i := 0) (by kernel_rfl) rfl (fun K hK => ?_)
     go_simp
     obtain ⟨wx11, hwx11⟩ : ∃ W_, wx10.alloc (.cells #[] 78) = W_ := ⟨_, rfl⟩
     have bwx11 : Below wx10.heap.size wx10 wx11 := by rw [← hwx11]; exact (Below.refl _ _).alloc (Nat.le_refl _) _
     obtain ⟨q0, hq0⟩ : ∃ q, wx10.heap.size = q := ⟨_, rfl⟩
     have qa : wx11.heap[q0]? = some (.cells #[] 78 (0, 0)) := by rw [← hwx11, ← hq0]; exact World.alloc_heap_new wx10 _
     have q0W : Wd.heap.size ≤ q0 := by have := Below.size J10; omega
     have J11 : BelS Wd wx11 := J10.below bwx11
     rw [hwx11]
     try rw [hq0]
     have Bwx11 := Lib.hid bwx11
     have HQ0 := Lib.hid hq0
     clear hwx11 bwx11 hq0
     refine hK.out _ _ J11 ?_
     clear hK K
     try simp only [aS]
     replace q7r := q7r.up Bwx11.out.size Bwx11.out
     refine oneT (i := 4) (by kernel_rfl) rfl (fun K hK => ?_)
     obtain ⟨v1, wx12, r1, o1, g1⟩ := copyR qa q0W HPR.out.1 (HBD.out.trans ((BelS.b J11).mono HBD.out.size)) (by rw [HPR.out.2]; have := H6.out; omega)
     rw [HPR.out.2] at r1
     have J12 : BelS Wd wx12 := J11.trans (g1.below (by intro b hb; simp at hb; omega) (by have := Below.size J11; omega))
     refine step_ap rfl _ _ _ _ rfl (.slice (some ⟨q0, 0, none⟩) 0 0) (.slice (some ⟨b, o, none⟩) kk cl) rfl rfl r1 ?_
     refine hK.out _ _ J12 ?_
     clear hK K
     try simp only [aS]
     clear r1
     have q7r := q7r.grown g1 (fun b hb => by have := HQ0.out; cases hb; simp; omega)
     refine oneT (i := 8) (by kernel_rfl) rfl (fun K hK => ?_)
     obtain ⟨A9, c9, rfl, -⟩ := o1.form
     obtain ⟨v2, wx13, r2, o2, g2⟩ := appR (w := wx12) o1 q7r (Below.refl _ _) (Below.size J12) (by rw [HPR.out.2]; have := H6.out; omega) (by rw [HX2.out]; simp)
     have J13 : BelS Wd wx13 := J12.trans (g2.below (by intro b hb; have := (o1.lt b (by simpa using hb)).1; omega) (Below.size J12))
     have e2 : X2.length = 2 := by rw [HX2.out]; rfl
     rw [e2] at r2
     refine step_ap rfl _ _ _ _ rfl (.slice A9 (X.take kk).length c9) (.slice (some ⟨q7, 0, none⟩) 2 2) rfl rfl r2 ?_
     refine hK.out _ _ J13 ?_
     clear hK K
     try simp only [aS]
     clear r2 e2
     obtain ⟨A8, c8, rfl, -⟩ := o2.form
     obtain ⟨v3, wx14, r3, o3, g3⟩ := appR (w := w) o2 HDR.out.1 (HBD.out.trans ((BelS.b J13).mono HBD.out.size)) (Below.size J13) (by rw [List.length_append, HPR.out.2, HX2.out]; have := H6.out; simp; omega) (by rw [HDR.out.2]; have := H6.out; omega)
     rw [HDR.out.2] at r3
     have J14 : BelS Wd wx14 := J13.trans (g3.below (by intro b hb; have := (o2.lt b (by simpa using hb)).1; omega) (Below.size J13))
     refine oneT (i := 13) (by kernel_rfl) rfl (fun K hK => ?_)
     refine step_ap rfl _ _ _ _ rfl (.slice A8 (X.take kk ++ X2).length c8) (.slice AD2 (l.length - (kk + 1)) (cl - (kk + 1))) rfl rfl r3 ?_
     refine hK.out _ _ J14 ?_
     clear hK K
     try simp only [aS]
     clear r3
     refine lastT (by kernel_rfl) rfl (fun K hK => ?_)
     go_simp
     refine hK.out _ _ ?_
     clear hK K
     try simp only [aS]
     refine doneT (by kernel_rfl) ?_ _
     have ER := Lib.hid (own_rn o3 X3OK.out (HBD.out.trans ((BelS.b J14).mono HBD.out.size)) (by rw [List.length_append, List.length_append, HPR.out.2, HDR.out.2, HX2.out]; have := H6.out; simp; omega))
     have ES := Lib.hid (SD.out.below (BelS.b J14))
     have EO := Lib.hid (OD.out.below (BelS.b J14))
     rw [X3R.out] at ER
     go_wp2_with fail
     go_meet
     exact ⟨ER.out, ES.out, EO.out⟩
   case rest =>
    clear S O0 GG X3OK X3R HX2
    obtain ⟨hRN, hS, hO⟩ := hcut
    have HRNX := Lib.hid hRN
    have S := Lib.hid hS
    have O0 := Lib.hid hO
    clear hRN hS hO hk1 hkl4 hkl5 hkl6
    have CI : Hid (CourseIs ws (cutR l kk r nn) 0) := Lib.hid (.inr (.inr (.inr ⟨HD.out.ok.2.2.2, by
     unfold cutR
     simp only [List.length_append, List.length_take, List.length_drop, List.length_cons, List.length_nil]
     have := H6.out
     omega, fun i x hx => by
     have hrk := HD.out.ok.2.2.1 kk r HR.out
     have hnb := HNB.out
     have hmn := HMN.out
     have hm : x ∈ cutR l kk r nn := List.mem_of_getElem? hx
     unfold cutR at hm
     rcases List.mem_append.1 hm with hm | hm
     ·rcases List.mem_append.1 hm with hm | hm
      ·obtain ⟨i2, h2⟩ := List.mem_iff_getElem?.1 (List.mem_of_mem_take hm)
       exact HD.out.ok.2.2.1 i2 x h2
      ·have hr1 := hrk.1
       rcases List.mem_cons.1 hm with rfl | hm
       ·exact ⟨by show 1 ≤ nn ∧ nn ≤ 1048576; omega, hrk.2⟩
       ·rw [List.mem_singleton] at hm
        subst hm
        exact ⟨by show 1 ≤ r.mn - nn ∧ r.mn - nn ≤ 1048576; omega, hrk.2⟩
     ·obtain ⟨i2, h2⟩ := List.mem_iff_getElem?.1 (List.mem_of_mem_drop hm)
      exact HD.out.ok.2.2.1 i2 x h2, rfl⟩)))
    have x0 := S.out.wk
    go_wp2_with fail
    refine (ED.out _ _ _ CI.out S.out.bel HRNX.out).mono ?_
    rintro e wd ⟨U3, k3, rfl, oo, bb⟩
    rw [drunkL_cut ws HR.out nn, HLE.out] at oo
    have O3 := Lib.hid oo
    replace S := Lib.hid (S.out.below bb)
    replace O0 := Lib.hid (O0.out.below bb)
    clear bb oo x0
    go_wp2_with fail
    refine (sanity_any _).mono ?_
    rintro e wz ⟨rfl, bz⟩
    replace S := Lib.hid (S.out.below bz)
    replace O0 := Lib.hid (O0.out.below bz)
    replace O3 := Lib.hid (O3.out.below bz)
    clear bz
    go_wp2_with fail
    refine (sameInts_any _ _ L wz (O3.out.rr EI (by have := HLL.out; show L.length ≤ 1000000000000000; omega)) (O0.out.rr EI (by have := HLL.out; show L.length ≤ 1000000000000000; omega)) (by have := HLL.out; omega)).mono ?_
    rintro e wy ⟨rfl, by_⟩
    replace S := Lib.hid (S.out.below by_)
    clear by_
    go_wp2_with fail
    go_ret
    exact ⟨by trivial, S.out.bel⟩
end Go.Proofs.Ytkoacclbempmdaa
