/- Contract of isOutlet. -/
import Derived.Test.YtkoacclbempmdaaGA
namespace Go.Proofs.Ytkoacclbempmdaa
open Go.RowKit

/-- An outlet that is right, as far as that does not depend on where it is. -/
def ouB (x : Ou) : Bool := (decide (1 ≤ x.id) && decide (x.id ≤ 1099511627776)) && (psB x.ps && (spB 0 1048576 x.k0 x.k1 && spB 0 1048576 x.s0 x.s1))
theorem cells7 {w W : World} {a b c d e f g : Value} {t : TypeId} (h : Hb w (.cells #[a, b, c, d, e, f, g] t (0, 0)) W) :
  W.cell? ⟨w.heap.size, 0, none⟩ = some a ∧ W.cell? ⟨w.heap.size, 1, none⟩ = some b ∧ W.cell? ⟨w.heap.size, 2, none⟩ = some c ∧ W.cell? ⟨w.heap.size, 3, none⟩ = some d ∧ W.cell? ⟨w.heap.size, 4, none⟩ = some e ∧ W.cell? ⟨w.heap.size, 5, none⟩ = some f ∧ W.cell? ⟨w.heap.size, 6, none⟩ = some g :=
 ⟨by simp [World.cell?, h.1], by simp [World.cell?, h.1], by simp [World.cell?, h.1], by simp [World.cell?, h.1], by simp [World.cell?, h.1], by simp [World.cell?, h.1], by simp [World.cell?, h.1]⟩

set_option maxHeartbeats 8000000 in
set_option maxRecDepth 100000 in
theorem isOutlet_any (x : Ou) (w : World) (h : RI w.heap.size x.pv x.ps w) :
  Calls Try.prog 114 #[ouV x] w fun e w' => e = .returned (.bool (ouB x)) ∧ Below w.heap.size w w' := by
 obtain ⟨id, into, A, ca, ps, k0, k1, s0, s1⟩ := x
 have P := Lib.hid fun W (hb : Below w.heap.size w W) => arePasses_any (.slice A ps.length ca) ps W (h.up hb.size hb)
 have CK := Lib.hid fun W => isWithin_any k0 k1 0 1048576 W
 have L := Lib.hid fun W => isWithin_any s0 s1 0 1048576 W
 have HR : Hid (∀ a b c, psB ps = a → spB 0 1048576 k0 k1 = b → spB 0 1048576 s0 s1 = c → ouB ⟨id, into, A, ca, ps, k0, k1, s0, s1⟩ = ((decide (1 ≤ id) && decide (id ≤ 1099511627776)) && (a && (b && c)))) := Lib.hid (by rintro _ _ _ rfl rfl rfl; rfl)
 obtain ⟨p, hp⟩ : ∃ p, psB ps = p := ⟨_, rfl⟩
 obtain ⟨q, hq⟩ : ∃ q, spB 0 1048576 k0 k1 = q := ⟨_, rfl⟩
 obtain ⟨r, hr⟩ : ∃ r, spB 0 1048576 s0 s1 = r := ⟨_, rfl⟩
 have HO := Lib.hid (HR.out p q r hp hq hr)
 rw [hp] at P
 rw [hq] at CK
 rw [hr] at L
 generalize hz : ouB ⟨id, into, A, ca, ps, k0, k1, s0, s1⟩ = z at HO ⊢
 have HB := Lib.hid (Hb.new w (.cells #[.int .i64 id, .int .i64 into, .slice A ps.length ca, .int .i64 k0, .int .i64 k1, .int .i64 s0, .int .i64 s1] 42 (0, 0)))
 clear h HR hp hq hr hz
 go_enter Try.func114, Try.ntmps114
 by_cases h1 : 1 ≤ id
 ·by_cases h2 : id ≤ 1099511627776
  ·go_wp2_with fail
   cases p
   ·refine wp_region_held_drew (S := Hb w (.cells #[.int .i64 id, .int .i64 into, .slice A ps.length ca, .int .i64 k0, .int .i64 k1, .int .i64 s0, .int .i64 s1] 42 (0, 0))) (by kernel_rfl) HB.out.drew (fun J0 => ?_)
    refine tw 0 3 J0 ?_ (hy := by intro w' hSw; obtain ⟨q0, q1, q2, q3, q4, q5, q6⟩ := cells7 hSw; go_simp; try with_reducible rfl)
    try simp only [aS]
    refine tw 1 4 J0 ?_ (hy := by intro w' hSw; obtain ⟨q0, q1, q2, q3, q4, q5, q6⟩ := cells7 hSw; go_simp; try with_reducible rfl)
    try simp only [aS]
    refine tw 2 5 J0 ?_ (hy := by intro w' hSw; obtain ⟨q0, q1, q2, q3, q4, q5, q6⟩ := cells7 hSw; go_simp; try with_reducible rfl)
    try simp only [aS]
    refine tw 3 6 J0 ?_ (hy := by intro w' hSw; obtain ⟨q0, q1, q2, q3, q4, q5, q6⟩ := cells7 hSw; go_simp; try with_reducible rfl)
    try simp only [aS]
    refine tw 4 7 J0 ?_ (hy := by intro w' hSw; obtain ⟨q0, q1, q2, q3, q4, q5, q6⟩ := cells7 hSw; go_simp; try with_reducible rfl)
    try simp only [aS]
    refine tw 5 8 J0 ?_ (hy := by intro w' hSw; obtain ⟨q0, q1, q2, q3, q4, q5, q6⟩ := cells7 hSw; go_simp; try with_reducible rfl)
    try simp only [aS]
    refine tw 6 9 J0 ?_ (hy := by intro w' hSw; obtain ⟨q0, q1, q2, q3, q4, q5, q6⟩ := cells7 hSw; go_simp; try with_reducible rfl)
    try simp only [aS]
    refine tw 7 10 J0 ?_ (hy := by intro w' hSw; obtain ⟨q0, q1, q2, q3, q4, q5, q6⟩ := cells7 hSw; go_simp; try with_reducible rfl)
    try simp only [aS]
    refine tw 8 11 J0 ?_ (hy := by intro w' hSw; obtain ⟨q0, q1, q2, q3, q4, q5, q6⟩ := cells7 hSw; go_simp; try with_reducible rfl)
    try simp only [aS]
    refine tw 9 12 J0 ?_ (hy := by intro w' hSw; obtain ⟨q0, q1, q2, q3, q4, q5, q6⟩ := cells7 hSw; go_simp; try with_reducible rfl)
    try simp only [aS]
    refine tw 10 13 J0 ?_ (hy := by intro w' hSw; obtain ⟨q0, q1, q2, q3, q4, q5, q6⟩ := cells7 hSw; go_simp; try with_reducible rfl)
    try simp only [aS]
    refine wpAnyH_ready (rs := [11]) (by kernel_rfl) (by simp) ?_
    refine AllReadyH.cons rfl (fun K hK => ?_) AllReadyH.nil
    go_simp
    refine (P.out _ J0.2).mono ?_
    rintro e wq1 ⟨rfl, hq1⟩
    have J1 := J0.below hq1
    clear hq1
    refine hK.out _ _ J1 (fun _ => ?_)
    clear hK K
    try simp only [aS]
    refine tw 12 15 J1 ?_ (hy := by intro w' hSw; obtain ⟨q0, q1, q2, q3, q4, q5, q6⟩ := cells7 hSw; go_simp; try with_reducible rfl)
    try simp only [aS]
    refine tw 13 16 J1 ?_ (hy := by intro w' hSw; obtain ⟨q0, q1, q2, q3, q4, q5, q6⟩ := cells7 hSw; go_simp; try with_reducible rfl)
    try simp only [aS]
    refine sw 14 17 J1 ?_
    try simp only [aS]
    refine sw 15 18 J1 ?_
    try simp only [aS]
    refine sw 16 19 J1 ?_
    try simp only [aS]
    refine sw 17 20 J1 ?_
    try simp only [aS]
    refine tw 18 21 J1 ?_ (hy := by intro w' hSw; obtain ⟨q0, q1, q2, q3, q4, q5, q6⟩ := cells7 hSw; go_simp; try with_reducible rfl)
    try simp only [aS]
    refine tw 19 22 J1 ?_ (hy := by intro w' hSw; obtain ⟨q0, q1, q2, q3, q4, q5, q6⟩ := cells7 hSw; go_simp; try with_reducible rfl)
    try simp only [aS]
    refine sw 20 23 J1 ?_
    try simp only [aS]
    refine sw 21 24 J1 ?_
    try simp only [aS]
    refine sw 22 25 J1 ?_
    try simp only [aS]
    refine sw 23 26 J1 ?_
    try simp only [aS]
    refine tw 24 27 J1 ?_ (hy := by intro w' hSw; obtain ⟨q0, q1, q2, q3, q4, q5, q6⟩ := cells7 hSw; go_simp; try with_reducible rfl)
    try simp only [aS]
    refine tw 25 2 J1 ?_ (hy := by intro w' hSw; obtain ⟨q0, q1, q2, q3, q4, q5, q6⟩ := cells7 hSw; go_simp; try with_reducible rfl)
    try simp only [aS]
    refine wpAnyH_done (by kernel_rfl) ?_ _
    go_wp2_with fail
    go_ret
    exact ⟨ret_bool (by rw [HO.out] <;> simp), J1.2⟩
   ·cases q
    ·refine wp_region_held_drew (S := Hb w (.cells #[.int .i64 id, .int .i64 into, .slice A ps.length ca, .int .i64 k0, .int .i64 k1, .int .i64 s0, .int .i64 s1] 42 (0, 0))) (by kernel_rfl) HB.out.drew (fun J0 => ?_)
     refine tw 0 3 J0 ?_ (hy := by intro w' hSw; obtain ⟨q0, q1, q2, q3, q4, q5, q6⟩ := cells7 hSw; go_simp; try with_reducible rfl)
     try simp only [aS]
     refine tw 1 4 J0 ?_ (hy := by intro w' hSw; obtain ⟨q0, q1, q2, q3, q4, q5, q6⟩ := cells7 hSw; go_simp; try with_reducible rfl)
     try simp only [aS]
     refine tw 2 5 J0 ?_ (hy := by intro w' hSw; obtain ⟨q0, q1, q2, q3, q4, q5, q6⟩ := cells7 hSw; go_simp; try with_reducible rfl)
     try simp only [aS]
     refine tw 3 6 J0 ?_ (hy := by intro w' hSw; obtain ⟨q0, q1, q2, q3, q4, q5, q6⟩ := cells7 hSw; go_simp; try with_reducible rfl)
     try simp only [aS]
     refine tw 4 7 J0 ?_ (hy := by intro w' hSw; obtain ⟨q0, q1, q2, q3, q4, q5, q6⟩ := cells7 hSw; go_simp; try with_reducible rfl)
     try simp only [aS]
     refine tw 5 8 J0 ?_ (hy := by intro w' hSw; obtain ⟨q0, q1, q2, q3, q4, q5, q6⟩ := cells7 hSw; go_simp; try with_reducible rfl)
     try simp only [aS]
     refine tw 6 9 J0 ?_ (hy := by intro w' hSw; obtain ⟨q0, q1, q2, q3, q4, q5, q6⟩ := cells7 hSw; go_simp; try with_reducible rfl)
     try simp only [aS]
     refine tw 7 10 J0 ?_ (hy := by intro w' hSw; obtain ⟨q0, q1, q2, q3, q4, q5, q6⟩ := cells7 hSw; go_simp; try with_reducible rfl)
     try simp only [aS]
     refine tw 8 11 J0 ?_ (hy := by intro w' hSw; obtain ⟨q0, q1, q2, q3, q4, q5, q6⟩ := cells7 hSw; go_simp; try with_reducible rfl)
     try simp only [aS]
     refine tw 9 12 J0 ?_ (hy := by intro w' hSw; obtain ⟨q0, q1, q2, q3, q4, q5, q6⟩ := cells7 hSw; go_simp; try with_reducible rfl)
     try simp only [aS]
     refine tw 10 13 J0 ?_ (hy := by intro w' hSw; obtain ⟨q0, q1, q2, q3, q4, q5, q6⟩ := cells7 hSw; go_simp; try with_reducible rfl)
     try simp only [aS]
     refine wpAnyH_ready (rs := [11]) (by kernel_rfl) (by simp) ?_
     refine AllReadyH.cons rfl (fun K hK => ?_) AllReadyH.nil
     go_simp
     refine (P.out _ J0.2).mono ?_
     rintro e wq1 ⟨rfl, hq1⟩
     have J1 := J0.below hq1
     clear hq1
     refine hK.out _ _ J1 (fun _ => ?_)
     clear hK K
     try simp only [aS]
     refine tw 12 15 J1 ?_ (hy := by intro w' hSw; obtain ⟨q0, q1, q2, q3, q4, q5, q6⟩ := cells7 hSw; go_simp; try with_reducible rfl)
     try simp only [aS]
     refine tw 13 16 J1 ?_ (hy := by intro w' hSw; obtain ⟨q0, q1, q2, q3, q4, q5, q6⟩ := cells7 hSw; go_simp; try with_reducible rfl)
     try simp only [aS]
     refine tw 14 17 J1 ?_ (hy := by intro w' hSw; obtain ⟨q0, q1, q2, q3, q4, q5, q6⟩ := cells7 hSw; go_simp; try with_reducible rfl)
     try simp only [aS]
     refine tw 15 18 J1 ?_ (hy := by intro w' hSw; obtain ⟨q0, q1, q2, q3, q4, q5, q6⟩ := cells7 hSw; go_simp; try with_reducible rfl)
     try simp only [aS]
     refine wpAnyH_ready (rs := [16]) (by kernel_rfl) (by simp) ?_
     refine AllReadyH.cons rfl (fun K hK => ?_) AllReadyH.nil
     go_simp
     refine (flows_any _).mono ?_
     rintro e wq2 ⟨rfl, hq2⟩
     have J2 := J1.below hq2
     clear hq2
     refine hK.out _ _ J2 (fun _ => ?_)
     clear hK K
     try simp only [aS]
     refine wpAnyH_ready (rs := [17]) (by kernel_rfl) (by simp) ?_
     refine AllReadyH.cons rfl (fun K hK => ?_) AllReadyH.nil
     go_simp
     refine (CK.out _).mono ?_
     rintro e wq3 ⟨rfl, hq3⟩
     have J3 := J2.below hq3
     clear hq3
     refine hK.out _ _ J3 (fun _ => ?_)
     clear hK K
     try simp only [aS]
     refine tw 18 21 J3 ?_ (hy := by intro w' hSw; obtain ⟨q0, q1, q2, q3, q4, q5, q6⟩ := cells7 hSw; go_simp; try with_reducible rfl)
     try simp only [aS]
     refine tw 19 22 J3 ?_ (hy := by intro w' hSw; obtain ⟨q0, q1, q2, q3, q4, q5, q6⟩ := cells7 hSw; go_simp; try with_reducible rfl)
     try simp only [aS]
     refine sw 20 23 J3 ?_
     try simp only [aS]
     refine sw 21 24 J3 ?_
     try simp only [aS]
     refine sw 22 25 J3 ?_
     try simp only [aS]
     refine sw 23 26 J3 ?_
     try simp only [aS]
     refine tw 24 27 J3 ?_ (hy := by intro w' hSw; obtain ⟨q0, q1, q2, q3, q4, q5, q6⟩ := cells7 hSw; go_simp; try with_reducible rfl)
     try simp only [aS]
     refine tw 25 2 J3 ?_ (hy := by intro w' hSw; obtain ⟨q0, q1, q2, q3, q4, q5, q6⟩ := cells7 hSw; go_simp; try with_reducible rfl)
     try simp only [aS]
     refine wpAnyH_done (by kernel_rfl) ?_ _
     go_wp2_with fail
     go_ret
     exact ⟨ret_bool (by rw [HO.out] <;> simp), J3.2⟩
    ·refine wp_region_held_drew (S := Hb w (.cells #[.int .i64 id, .int .i64 into, .slice A ps.length ca, .int .i64 k0, .int .i64 k1, .int .i64 s0, .int .i64 s1] 42 (0, 0))) (by kernel_rfl) HB.out.drew (fun J0 => ?_)
     refine tw 0 3 J0 ?_ (hy := by intro w' hSw; obtain ⟨q0, q1, q2, q3, q4, q5, q6⟩ := cells7 hSw; go_simp; try with_reducible rfl)
     try simp only [aS]
     refine tw 1 4 J0 ?_ (hy := by intro w' hSw; obtain ⟨q0, q1, q2, q3, q4, q5, q6⟩ := cells7 hSw; go_simp; try with_reducible rfl)
     try simp only [aS]
     refine tw 2 5 J0 ?_ (hy := by intro w' hSw; obtain ⟨q0, q1, q2, q3, q4, q5, q6⟩ := cells7 hSw; go_simp; try with_reducible rfl)
     try simp only [aS]
     refine tw 3 6 J0 ?_ (hy := by intro w' hSw; obtain ⟨q0, q1, q2, q3, q4, q5, q6⟩ := cells7 hSw; go_simp; try with_reducible rfl)
     try simp only [aS]
     refine tw 4 7 J0 ?_ (hy := by intro w' hSw; obtain ⟨q0, q1, q2, q3, q4, q5, q6⟩ := cells7 hSw; go_simp; try with_reducible rfl)
     try simp only [aS]
     refine tw 5 8 J0 ?_ (hy := by intro w' hSw; obtain ⟨q0, q1, q2, q3, q4, q5, q6⟩ := cells7 hSw; go_simp; try with_reducible rfl)
     try simp only [aS]
     refine tw 6 9 J0 ?_ (hy := by intro w' hSw; obtain ⟨q0, q1, q2, q3, q4, q5, q6⟩ := cells7 hSw; go_simp; try with_reducible rfl)
     try simp only [aS]
     refine tw 7 10 J0 ?_ (hy := by intro w' hSw; obtain ⟨q0, q1, q2, q3, q4, q5, q6⟩ := cells7 hSw; go_simp; try with_reducible rfl)
     try simp only [aS]
     refine tw 8 11 J0 ?_ (hy := by intro w' hSw; obtain ⟨q0, q1, q2, q3, q4, q5, q6⟩ := cells7 hSw; go_simp; try with_reducible rfl)
     try simp only [aS]
     refine tw 9 12 J0 ?_ (hy := by intro w' hSw; obtain ⟨q0, q1, q2, q3, q4, q5, q6⟩ := cells7 hSw; go_simp; try with_reducible rfl)
     try simp only [aS]
     refine tw 10 13 J0 ?_ (hy := by intro w' hSw; obtain ⟨q0, q1, q2, q3, q4, q5, q6⟩ := cells7 hSw; go_simp; try with_reducible rfl)
     try simp only [aS]
     refine wpAnyH_ready (rs := [11]) (by kernel_rfl) (by simp) ?_
     refine AllReadyH.cons rfl (fun K hK => ?_) AllReadyH.nil
     go_simp
     refine (P.out _ J0.2).mono ?_
     rintro e wq1 ⟨rfl, hq1⟩
     have J1 := J0.below hq1
     clear hq1
     refine hK.out _ _ J1 (fun _ => ?_)
     clear hK K
     try simp only [aS]
     refine tw 12 15 J1 ?_ (hy := by intro w' hSw; obtain ⟨q0, q1, q2, q3, q4, q5, q6⟩ := cells7 hSw; go_simp; try with_reducible rfl)
     try simp only [aS]
     refine tw 13 16 J1 ?_ (hy := by intro w' hSw; obtain ⟨q0, q1, q2, q3, q4, q5, q6⟩ := cells7 hSw; go_simp; try with_reducible rfl)
     try simp only [aS]
     refine tw 14 17 J1 ?_ (hy := by intro w' hSw; obtain ⟨q0, q1, q2, q3, q4, q5, q6⟩ := cells7 hSw; go_simp; try with_reducible rfl)
     try simp only [aS]
     refine tw 15 18 J1 ?_ (hy := by intro w' hSw; obtain ⟨q0, q1, q2, q3, q4, q5, q6⟩ := cells7 hSw; go_simp; try with_reducible rfl)
     try simp only [aS]
     refine wpAnyH_ready (rs := [16]) (by kernel_rfl) (by simp) ?_
     refine AllReadyH.cons rfl (fun K hK => ?_) AllReadyH.nil
     go_simp
     refine (flows_any _).mono ?_
     rintro e wq2 ⟨rfl, hq2⟩
     have J2 := J1.below hq2
     clear hq2
     refine hK.out _ _ J2 (fun _ => ?_)
     clear hK K
     try simp only [aS]
     refine wpAnyH_ready (rs := [17]) (by kernel_rfl) (by simp) ?_
     refine AllReadyH.cons rfl (fun K hK => ?_) AllReadyH.nil
     go_simp
     refine (CK.out _).mono ?_
     rintro e wq3 ⟨rfl, hq3⟩
     have J3 := J2.below hq3
     clear hq3
     refine hK.out _ _ J3 (fun _ => ?_)
     clear hK K
     try simp only [aS]
     refine tw 18 21 J3 ?_ (hy := by intro w' hSw; obtain ⟨q0, q1, q2, q3, q4, q5, q6⟩ := cells7 hSw; go_simp; try with_reducible rfl)
     try simp only [aS]
     refine tw 19 22 J3 ?_ (hy := by intro w' hSw; obtain ⟨q0, q1, q2, q3, q4, q5, q6⟩ := cells7 hSw; go_simp; try with_reducible rfl)
     try simp only [aS]
     refine tw 20 23 J3 ?_ (hy := by intro w' hSw; obtain ⟨q0, q1, q2, q3, q4, q5, q6⟩ := cells7 hSw; go_simp; try with_reducible rfl)
     try simp only [aS]
     refine tw 21 24 J3 ?_ (hy := by intro w' hSw; obtain ⟨q0, q1, q2, q3, q4, q5, q6⟩ := cells7 hSw; go_simp; try with_reducible rfl)
     try simp only [aS]
     refine wpAnyH_ready (rs := [22]) (by kernel_rfl) (by simp) ?_
     refine AllReadyH.cons rfl (fun K hK => ?_) AllReadyH.nil
     go_simp
     refine (flows_any _).mono ?_
     rintro e wq4 ⟨rfl, hq4⟩
     have J4 := J3.below hq4
     clear hq4
     refine hK.out _ _ J4 (fun _ => ?_)
     clear hK K
     try simp only [aS]
     refine wpAnyH_ready (rs := [23]) (by kernel_rfl) (by simp) ?_
     refine AllReadyH.cons rfl (fun K hK => ?_) AllReadyH.nil
     go_simp
     refine (L.out _).mono ?_
     rintro e wq5 ⟨rfl, hq5⟩
     have J5 := J4.below hq5
     clear hq5
     refine hK.out _ _ J5 (fun _ => ?_)
     clear hK K
     try simp only [aS]
     refine tw 24 27 J5 ?_ (hy := by intro w' hSw; obtain ⟨q0, q1, q2, q3, q4, q5, q6⟩ := cells7 hSw; go_simp; try with_reducible rfl)
     try simp only [aS]
     refine tw 25 2 J5 ?_ (hy := by intro w' hSw; obtain ⟨q0, q1, q2, q3, q4, q5, q6⟩ := cells7 hSw; go_simp; try with_reducible rfl)
     try simp only [aS]
     refine wpAnyH_done (by kernel_rfl) ?_ _
     go_wp2_with fail
     go_ret
     exact ⟨ret_bool (by rw [HO.out, decide_eq_true h1, decide_eq_true h2] <;> rfl), J5.2⟩
  ·have e2 : decide (id ≤ 1099511627776) = false := decide_eq_false h2
   go_wp2_with fail
   refine wp_region_held_drew (S := Hb w (.cells #[.int .i64 id, .int .i64 into, .slice A ps.length ca, .int .i64 k0, .int .i64 k1, .int .i64 s0, .int .i64 s1] 42 (0, 0))) (by kernel_rfl) HB.out.drew (fun J0 => ?_)
   refine tw 0 3 J0 ?_ (hy := by intro w' hSw; obtain ⟨q0, q1, q2, q3, q4, q5, q6⟩ := cells7 hSw; go_simp; try with_reducible rfl)
   try simp only [aS]
   refine tw 1 4 J0 ?_ (hy := by intro w' hSw; obtain ⟨q0, q1, q2, q3, q4, q5, q6⟩ := cells7 hSw; go_simp; try with_reducible rfl)
   try simp only [aS]
   refine tw 2 5 J0 ?_ (hy := by intro w' hSw; obtain ⟨q0, q1, q2, q3, q4, q5, q6⟩ := cells7 hSw; go_simp; try with_reducible rfl)
   try simp only [aS]
   refine tw 3 6 J0 ?_ (hy := by intro w' hSw; obtain ⟨q0, q1, q2, q3, q4, q5, q6⟩ := cells7 hSw; go_simp; try with_reducible rfl)
   try simp only [aS]
   refine tw 4 7 J0 ?_ (hy := by intro w' hSw; obtain ⟨q0, q1, q2, q3, q4, q5, q6⟩ := cells7 hSw; go_simp; try with_reducible rfl)
   try simp only [aS]
   refine tw 5 8 J0 ?_ (hy := by intro w' hSw; obtain ⟨q0, q1, q2, q3, q4, q5, q6⟩ := cells7 hSw; go_simp; try with_reducible rfl)
   try simp only [aS]
   refine tw 6 9 J0 ?_ (hy := by intro w' hSw; obtain ⟨q0, q1, q2, q3, q4, q5, q6⟩ := cells7 hSw; go_simp; try with_reducible rfl)
   try simp only [aS]
   refine tw 7 10 J0 ?_ (hy := by intro w' hSw; obtain ⟨q0, q1, q2, q3, q4, q5, q6⟩ := cells7 hSw; go_simp; try with_reducible rfl)
   try simp only [aS]
   refine tw 8 11 J0 ?_ (hy := by intro w' hSw; obtain ⟨q0, q1, q2, q3, q4, q5, q6⟩ := cells7 hSw; go_simp; try with_reducible rfl)
   try simp only [aS]
   refine sw 9 12 J0 ?_
   try simp only [aS]
   refine sw 10 13 J0 ?_
   try simp only [aS]
   refine sw 11 14 J0 ?_
   try simp only [aS]
   refine tw 12 15 J0 ?_ (hy := by intro w' hSw; obtain ⟨q0, q1, q2, q3, q4, q5, q6⟩ := cells7 hSw; go_simp; try with_reducible rfl)
   try simp only [aS]
   refine tw 13 16 J0 ?_ (hy := by intro w' hSw; obtain ⟨q0, q1, q2, q3, q4, q5, q6⟩ := cells7 hSw; go_simp; try with_reducible rfl)
   try simp only [aS]
   refine sw 14 17 J0 ?_
   try simp only [aS]
   refine sw 15 18 J0 ?_
   try simp only [aS]
   refine sw 16 19 J0 ?_
   try simp only [aS]
   refine sw 17 20 J0 ?_
   try simp only [aS]
   refine tw 18 21 J0 ?_ (hy := by intro w' hSw; obtain ⟨q0, q1, q2, q3, q4, q5, q6⟩ := cells7 hSw; go_simp; try with_reducible rfl)
   try simp only [aS]
   refine tw 19 22 J0 ?_ (hy := by intro w' hSw; obtain ⟨q0, q1, q2, q3, q4, q5, q6⟩ := cells7 hSw; go_simp; try with_reducible rfl)
   try simp only [aS]
   refine sw 20 23 J0 ?_
   try simp only [aS]
   refine sw 21 24 J0 ?_
   try simp only [aS]
   refine sw 22 25 J0 ?_
   try simp only [aS]
   refine sw 23 26 J0 ?_
   try simp only [aS]
   refine tw 24 27 J0 ?_ (hy := by intro w' hSw; obtain ⟨q0, q1, q2, q3, q4, q5, q6⟩ := cells7 hSw; go_simp; try with_reducible rfl)
   try simp only [aS]
   refine tw 25 2 J0 ?_ (hy := by intro w' hSw; obtain ⟨q0, q1, q2, q3, q4, q5, q6⟩ := cells7 hSw; go_simp; try with_reducible rfl)
   try simp only [aS]
   refine wpAnyH_done (by kernel_rfl) ?_ _
   go_wp2_with fail
   go_ret
   exact ⟨ret_bool (by rw [HO.out, e2] <;> simp), J0.2⟩
 ·have e1 : decide (1 ≤ id) = false := decide_eq_false h1
  go_wp2_with fail
  refine wp_region_held_drew (S := Hb w (.cells #[.int .i64 id, .int .i64 into, .slice A ps.length ca, .int .i64 k0, .int .i64 k1, .int .i64 s0, .int .i64 s1] 42 (0, 0))) (by kernel_rfl) HB.out.drew (fun J0 => ?_)
  refine tw 0 3 J0 ?_ (hy := by intro w' hSw; obtain ⟨q0, q1, q2, q3, q4, q5, q6⟩ := cells7 hSw; go_simp; try with_reducible rfl)
  try simp only [aS]
  refine tw 1 4 J0 ?_ (hy := by intro w' hSw; obtain ⟨q0, q1, q2, q3, q4, q5, q6⟩ := cells7 hSw; go_simp; try with_reducible rfl)
  try simp only [aS]
  refine tw 2 5 J0 ?_ (hy := by intro w' hSw; obtain ⟨q0, q1, q2, q3, q4, q5, q6⟩ := cells7 hSw; go_simp; try with_reducible rfl)
  try simp only [aS]
  refine tw 3 6 J0 ?_ (hy := by intro w' hSw; obtain ⟨q0, q1, q2, q3, q4, q5, q6⟩ := cells7 hSw; go_simp; try with_reducible rfl)
  try simp only [aS]
  refine sw 4 7 J0 ?_
  try simp only [aS]
  refine sw 5 8 J0 ?_
  try simp only [aS]
  refine sw 6 9 J0 ?_
  try simp only [aS]
  refine tw 7 10 J0 ?_ (hy := by intro w' hSw; obtain ⟨q0, q1, q2, q3, q4, q5, q6⟩ := cells7 hSw; go_simp; try with_reducible rfl)
  try simp only [aS]
  refine tw 8 11 J0 ?_ (hy := by intro w' hSw; obtain ⟨q0, q1, q2, q3, q4, q5, q6⟩ := cells7 hSw; go_simp; try with_reducible rfl)
  try simp only [aS]
  refine sw 9 12 J0 ?_
  try simp only [aS]
  refine sw 10 13 J0 ?_
  try simp only [aS]
  refine sw 11 14 J0 ?_
  try simp only [aS]
  refine tw 12 15 J0 ?_ (hy := by intro w' hSw; obtain ⟨q0, q1, q2, q3, q4, q5, q6⟩ := cells7 hSw; go_simp; try with_reducible rfl)
  try simp only [aS]
  refine tw 13 16 J0 ?_ (hy := by intro w' hSw; obtain ⟨q0, q1, q2, q3, q4, q5, q6⟩ := cells7 hSw; go_simp; try with_reducible rfl)
  try simp only [aS]
  refine sw 14 17 J0 ?_
  try simp only [aS]
  refine sw 15 18 J0 ?_
  try simp only [aS]
  refine sw 16 19 J0 ?_
  try simp only [aS]
  refine sw 17 20 J0 ?_
  try simp only [aS]
  refine tw 18 21 J0 ?_ (hy := by intro w' hSw; obtain ⟨q0, q1, q2, q3, q4, q5, q6⟩ := cells7 hSw; go_simp; try with_reducible rfl)
  try simp only [aS]
  refine tw 19 22 J0 ?_ (hy := by intro w' hSw; obtain ⟨q0, q1, q2, q3, q4, q5, q6⟩ := cells7 hSw; go_simp; try with_reducible rfl)
  try simp only [aS]
  refine sw 20 23 J0 ?_
  try simp only [aS]
  refine sw 21 24 J0 ?_
  try simp only [aS]
  refine sw 22 25 J0 ?_
  try simp only [aS]
  refine sw 23 26 J0 ?_
  try simp only [aS]
  refine tw 24 27 J0 ?_ (hy := by intro w' hSw; obtain ⟨q0, q1, q2, q3, q4, q5, q6⟩ := cells7 hSw; go_simp; try with_reducible rfl)
  try simp only [aS]
  refine tw 25 2 J0 ?_ (hy := by intro w' hSw; obtain ⟨q0, q1, q2, q3, q4, q5, q6⟩ := cells7 hSw; go_simp; try with_reducible rfl)
  try simp only [aS]
  refine wpAnyH_done (by kernel_rfl) ?_ _
  go_wp2_with fail
  go_ret
  exact ⟨ret_bool (by rw [HO.out, e1] <;> simp), J0.2⟩
end Go.Proofs.Ytkoacclbempmdaa
