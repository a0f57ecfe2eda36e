/- The law CarrierLeft, by its walk. -/
import Derived.Test.YtkoacclbempmdaaQFE
import Derived.Test.YtkoacclbempmdaaQFF
namespace Go.Proofs.Ytkoacclbempmdaa
open Go.RowKit

theorem lessRiver_succ {ws : Wk} {c0 : Nat} {rv : List Int} {i h : Nat} {x : Int} (hh : (headsN ws)[i]? = some h) (hx : rv[i]? = some x) : lessRiver ws c0 rv (i + 1) = lessRiver ws c0 rv i ++ (if h = c0 then [] else [x]) := by
 have hz : ((headsN ws).zip rv)[i]? = some (h, x) := by rw [List.getElem?_zip_eq_some]; exact ⟨hh, hx⟩
 unfold lessRiver
 rw [take_snoc_get hz, List.filter_append, List.map_append]
 congr 1
 by_cases e : h = c0
 ·simp [e]
 ·simp [e]
theorem lessRiver_len (ws : Wk) (c0 : Nat) (rv : List Int) (i : Nat) : (lessRiver ws c0 rv i).length ≤ i := by
 unfold lessRiver
 rw [List.length_map]
 refine Nat.le_trans (List.length_filter_le _ _) ?_
 rw [List.length_take]
 omega
/-- The first so many of what is left. -/
def kpL (ws : Wk) (c0 : Nat) (l : List Int) (m : Nat) : List Int := ((keptI ws c0 (total ws)).take m).map fun j => l.getD j 0
theorem kpL_zero (ws : Wk) (c0 : Nat) (l : List Int) : kpL ws c0 l 0 = [] := by unfold kpL; simp
theorem kpL_succ {ws : Wk} {c0 : Nat} {l : List Int} {m n : Nat} {x : Int} (h : (keptI ws c0 (total ws))[m]? = some n) (hx : l[n]? = some x) : kpL ws c0 l (m + 1) = kpL ws c0 l m ++ [x] := by
 unfold kpL
 rw [take_snoc_get h, List.map_append, List.map_cons, List.map_nil, List.getD_eq_getElem?_getD, hx]
 rfl
theorem kpL_all (ws : Wk) (c0 : Nat) (l : List Int) {m : Nat} (h : (keptI ws c0 (total ws)).length ≤ m) : kpL ws c0 l m = (keptI ws c0 (total ws)).map fun j => l.getD j 0 := by unfold kpL; rw [List.take_of_length_le h]
theorem kpL_len (ws : Wk) (c0 : Nat) (l : List Int) (m : Nat) : (kpL ws c0 l m).length ≤ m := by unfold kpL; rw [List.length_map, List.length_take]; omega
/-- An outlet that is left, by its ID. -/
theorem less_id {ws R : Wk} {c0 : Nat} (hR : IsLess ws c0 R) (hw : WOk ws) {k j : Nat} {os : List Ou} {o : Ou} (hk : R[k]? = some os) (hj : os[j]? = some o) : ∃ n, n < total ws ∧ (keptI ws c0 (total ws))[pre R k + j]? = some n ∧ FstIs (fun o : Ou => o.id) (outs ws) o.id n := by
 obtain ⟨n, p, o', hp, hg, h3, e, h5⟩ := less_inv hR (allP_get hk hj)
 simp only [Pl.mk.injEq, true_and] at e
 obtain ⟨-, -, rfl⟩ := e
 have hkb : keepB ws c0 n = true := by rw [keepB_at hp, hg]; rfl
 refine ⟨n, lt_total hp, by rw [← h3]; exact keptI_at hkb (lt_total hp), .inl ⟨n, p.o, (outs_get hp).1, (ouB_co h5).2.2.1.symm, fun i o2 hi ho2 => ?_, rfl⟩⟩
 obtain ⟨p2, hp2⟩ := at_total (ws := ws) (n := i) (by have := lt_total hp; omega)
 rw [(outs_get hp2).1] at ho2
 cases ho2
 show p2.o.id ≠ o.id
 rw [(ouB_co h5).2.2.1]
 exact (hw.one i n p2 p hp2 hp hi).1
/-- What the law holds in its first blocks. -/
structure LfS (w : World) (v a b c d : Value) (W : World) : Prop where
 c0 : W.cell? ⟨w.heap.size, 0, none⟩ = some v
 s0 : W.cell? ⟨w.heap.size + 1, 0, none⟩ = some a
 s1 : W.cell? ⟨w.heap.size + 1, 1, none⟩ = some b
 s2 : W.cell? ⟨w.heap.size + 1, 2, none⟩ = some c
 s3 : W.cell? ⟨w.heap.size + 1, 3, none⟩ = some d
 bel : Below w.heap.size w W
theorem LfS.below {w W W' : World} {v a b c d : Value} (h : LfS w v a b c d W) (hb : Below W.heap.size W W') : LfS w v a b c d W' := ⟨BelS.c hb h.c0, BelS.c hb h.s0, BelS.c hb h.s1, BelS.c hb h.s2, BelS.c hb h.s3, h.bel.trans (hb.mono h.bel.size)⟩
/-- The lists that grow: four in a struct, and one beside. -/
structure LfL (g : Nat) (us : List Value) (ls : List (List Int)) (u : Value) (l : List Int) (W : World) : Prop where
 gl : GL g (g + 1) us ls W
 ow : OwnG encI 1 3 (g + 1) u l W
 ap : ∀ b, u.ownBlock = some b → ∀ (k : Nat) v, us[k]? = some v → v.ownBlock ≠ some b
theorem LfL.below {g : Nat} {us : List Value} {ls : List (List Int)} {u : Value} {l : List Int} {W W' : World} (h : LfL g us ls u l W) (hb : Below W.heap.size W W') : LfL g us ls u l W' := ⟨h.gl.below hb, h.ow.below hb, h.ap⟩
theorem LfL.step {g k : Nat} {us : List Value} {ls : List (List Int)} {u u4 v4 : Value} {l l4 : List Int} {y : Int} {W W4 : World} (h : LfL g us ls u l W) (hu : us[k]? = some u4) (hl : ls[k]? = some l4) (hg : GrownL u4.ownBlock.toList W W4) (ho : OwnG encI 1 3 (g + 1) v4 (l4 ++ [y]) W4) (ha : v4.ownBlock = u4.ownBlock ∨ ∃ n, v4.ownBlock = some n ∧ W.heap.size ≤ n) :
  LfL g (us.set k v4) (ls.set k (l4 ++ [y])) u l (W4.setCell ⟨g, k, none⟩ v4) := by
 have gs : GrownL [g] W4 (W4.setCell ⟨g, k, none⟩ v4) := GrownL.set _ _ _ (by simp)
 refine ⟨h.gl.app hu hl hg ho ha, (h.ow.grown hg (fun b hb hm => h.ap b hb k u4 hu (by simpa using hm))).grown gs (fun b hb hm => by have := (h.ow.lt b hb).1; simp at hm; omega), fun b hb j v hj => ?_⟩
 by_cases e : k = j
 ·subst e
  rw [List.getElem?_set_self (List.getElem?_eq_some_iff.1 hu).1] at hj
  cases hj
  rcases ha with ha | ⟨n, ha, hn⟩
  ·rw [ha]; exact h.ap b hb k u4 hu
  ·rw [ha]
   intro e
   cases e
   have := (h.ow.lt _ hb).2
   omega
 ·rw [List.getElem?_set_ne e] at hj
  exact h.ap b hb j v hj
theorem LfL.want {g : Nat} {us : List Value} {ls : List (List Int)} {u u' : Value} {l : List Int} {y : Int} {W W' : World} (h : LfL g us ls u l W) (hg : GrownL u.ownBlock.toList W W') (ho : OwnG encI 1 3 (g + 1) u' (l ++ [y]) W') (ha : u'.ownBlock = u.ownBlock ∨ u'.ownBlock = some W.heap.size) : LfL g us ls u' (l ++ [y]) W' := by
 refine ⟨h.gl.grown_ hg (fun hm => by have := (h.ow.lt g (by simpa using hm)).1; omega) (fun k v b hv hb hm => h.ap b (by simpa using hm) k v hv hb), ho, fun b hb k v hv e => ?_⟩
 rcases ha with ha | ha
 ·exact h.ap b (ha ▸ hb) k v hv e
 ·rw [ha] at hb
  cases hb
  have := (h.gl.own hv e).2
  omega

set_option maxHeartbeats 16000000 in
set_option maxRecDepth 1000000 in
theorem left_law (A : Option Addr) (c : Nat) (ws : Wk) (wv : Value) (s : Wa) (nn : Int) (w : World) (h : RK w.heap.size (.slice A ws.length c) ws w) (hr : Room (.slice A ws.length c) ws w) (hs : RWa w.heap.size wv s w) (hn : 0 ≤ nn ∧ nn ≤ 255) :
  Calls Try.prog 8 #[.agg #[.slice A ws.length c], wv, .int .u8 nn] w fun e w' => e = .returned (.bool true) ∧ Below w.heap.size w w' := by
 obtain ⟨A1, c1, A2, c2, A3, c3, A4, c4, rfl⟩ := hs.form
 have H := Lib.hid h
 have HR := Lib.hid hr
 have HS := Lib.hid hs
 have HN := Lib.hid hn
 have hfit : (ws.length : Int) ≤ 1000000000000000 := by obtain ⟨_, _, _, hf, _⟩ := h; have hf : ws.length ≤ 1000000000000000 := hf; omega
 obtain ⟨W0, hW0⟩ : ∃ W0, (w.alloc (.cells #[.slice A ws.length c] 24)).alloc (.cells #[.slice A1 s.river.length c1, .slice A2 s.boards.length c2, .slice A3 s.leaks.length c3, .slice A4 s.losses.length c4] 27) = W0 := ⟨_, rfl⟩
 have S : Hid (LfS w (.slice A ws.length c) (.slice A1 s.river.length c1) (.slice A2 s.boards.length c2) (.slice A3 s.leaks.length c3) (.slice A4 s.losses.length c4) W0) := Lib.hid ⟨by rw [← hW0]; simp [go_sem], by rw [← hW0]; simp [go_sem], by rw [← hW0]; simp [go_sem], by rw [← hW0]; simp [go_sem], by rw [← hW0]; simp [go_sem], by rw [← hW0]; exact ((Below.refl _ _).alloc (Nat.le_refl _) _).alloc (by simp) _⟩
 clear h hr hs hn
 go_enter Try.func8, Try.ntmps8
 have x0 := S.out.c0
 have x1 := S.out.s0
 have x2 := S.out.s1
 have x3 := S.out.s2
 have x4 := S.out.s3
 go_wp2_with fail
 refine (few_any A ws.length c ws _ (H.out.up S.out.bel.size S.out.bel)).mono ?_
 rintro e w1 ⟨b, rfl, hfew, b1⟩
 replace S := Lib.hid (S.out.below b1)
 clear b1 x0 x1 x2 x3 x4 hW0
 cases b
 ·clear hfew
  have x0 := S.out.c0
  have x1 := S.out.s0
  have x2 := S.out.s1
  have x3 := S.out.s2
  have x4 := S.out.s3
  go_wp2_with fail
  refine (sanity_any _).mono ?_
  rintro e wz ⟨rfl, bz⟩
  have SZ := Lib.hid (S.out.below bz)
  clear bz
  go_wp2_with fail
  go_ret
  exact ⟨rfl, SZ.out.bel⟩
 have HT : Hid (total ws ≤ 90 ∧ ws.length ≤ 30 ∧ ∀ os ∈ ws, ∀ o ∈ os, o.ps.length ≤ 20) := Lib.hid (by have := hfew (by trivial); have h1 := this.1; have h2 := this.2.1; exact ⟨by omega, by omega, this.2.2⟩)
 clear hfew
 have x0 := S.out.c0
 have x1 := S.out.s0
 have x2 := S.out.s1
 have x3 := S.out.s2
 have x4 := S.out.s3
 go_wp2_with fail
 refine (wet_any _ s _ (HS.out.up S.out.bel.size S.out.bel)).mono ?_
 rintro e w2 hwet
 obtain ⟨b, rfl, hwb, b2⟩ := hwet
 replace S := Lib.hid (S.out.below b2)
 clear b2 x0 x1 x2 x3 x4
 cases b
 ·clear hwb
  have x0 := S.out.c0
  have x1 := S.out.s0
  have x2 := S.out.s1
  have x3 := S.out.s2
  have x4 := S.out.s3
  go_wp2_with fail
  refine (sanity_any _).mono ?_
  rintro e wz ⟨rfl, bz⟩
  have SZ := Lib.hid (S.out.below bz)
  clear bz
  go_wp2_with fail
  go_ret
  exact ⟨rfl, SZ.out.bel⟩
 have HWB := Lib.hid (hwb (by trivial))
 clear hwb
 have hk100 : (s.river.length : Int) ≤ 100 := by have := HWB.out.1; omega
 have hk101 : (s.boards.length : Int) ≤ 100 := by have := HWB.out.2.1; omega
 by_cases hz : ws.length = 0
 ·have hz0 : ((ws.length : Int) == 0) = true := by rw [beq_iff_eq]; omega
  have x0 := S.out.c0
  have x1 := S.out.s0
  have x2 := S.out.s1
  have x3 := S.out.s2
  have x4 := S.out.s3
  go_wp2_with fail
  refine (sanity_any _).mono ?_
  rintro e wz ⟨rfl, bz⟩
  have SZ := Lib.hid (S.out.below bz)
  clear bz
  go_wp2_with fail
  go_ret
  exact ⟨rfl, SZ.out.bel⟩
 have hz0 : ((ws.length : Int) == 0) = false := by rw [beq_eq_false_iff_ne]; omega
 obtain ⟨d, hd⟩ := WatIs.exists_ ws s
 have HD := Lib.hid hd
 clear hd
 have x0 := S.out.c0
 have x1 := S.out.s0
 have x2 := S.out.s1
 have x3 := S.out.s2
 have x4 := S.out.s3
 go_wp2_with fail
 refine (CheckWater_any _ _ ws s d _ (H.out.up S.out.bel.size S.out.bel) (by have := HT.out.1; omega) (HS.out.up S.out.bel.size S.out.bel) HD.out).mono ?_
 rintro e w3 ⟨rfl, b3⟩
 replace S := Lib.hid (S.out.below b3)
 clear b3 x0 x1 x2 x3 x4
 by_cases hd0 : d = 0
 rotate_left
 ·have hdb : (d != 0) = true := by rw [bne_iff_ne]; exact hd0
  have x0 := S.out.c0
  have x1 := S.out.s0
  have x2 := S.out.s1
  have x3 := S.out.s2
  have x4 := S.out.s3
  go_wp2_with fail
  refine (sanity_any _).mono ?_
  rintro e wz ⟨rfl, bz⟩
  have SZ := Lib.hid (S.out.below bz)
  clear bz
  go_wp2_with fail
  go_ret
  exact ⟨rfl, SZ.out.bel⟩
 subst hd0
 have HCW : Hid (CheckIs ws 0 ∧ WaOk ws s) := Lib.hid (by
  rcases HD.out with ⟨_, h⟩ | ⟨_, _, h⟩ | ⟨h1, h2, _⟩
  ·exact absurd rfl h
  ·cases h
  ·exact ⟨h1, h2⟩)
 have HW := Lib.hid HCW.out.1.ok
 have hlen : (ws.length : Int) ≠ 0 := by omega
 obtain ⟨c0, hc0⟩ : ∃ c0 : Nat, nn.tmod (ws.length : Int) = c0 := by
  have h3 := Int.emod_nonneg nn hlen
  rw [← Int.tmod_eq_emod_of_nonneg HN.out.1] at h3
  exact ⟨(nn.tmod (ws.length : Int)).toNat, by omega⟩
 have hcl : c0 < ws.length := by
  have h4 := Int.emod_lt_of_pos nn (show 0 < (ws.length : Int) by omega)
  rw [← Int.tmod_eq_emod_of_nonneg HN.out.1, hc0] at h4
  omega
 have wu : IntKind.i64.wrap nn = nn := IntWalk.i64_in _ (by have := HN.out; omega)
 have w2' : IntKind.i64.wrap (c0 : Int) = (c0 : Int) := IntWalk.i64_in _ (by have := HW.out.len; omega)
 have HCL := Lib.hid hcl
 clear hz
 have x0 := S.out.c0
 have x1 := S.out.s0
 have x2 := S.out.s1
 have x3 := S.out.s2
 have x4 := S.out.s3
 go_wp2_with fail
 refine (without_any A c ws c0 0 _ (H.out.up S.out.bel.size S.out.bel) (HR.out.up H.out S.out.bel) (by have := HT.out.1; omega) HCW.out.1 (fun os hos o ho => by have := HT.out.2.2 os hos o ho; omega)).mono ?_
 rintro e w4 ⟨v, E, rfl, hwo, b4⟩
 obtain ⟨LL, DD, hwo⟩ := hwo
 obtain ⟨rfl, hless⟩ : E = 0 ∧ IsLess ws c0 (LL.map (·.os)) := by
  rcases hwo with ⟨h, _⟩ | ⟨_, h, _⟩ | ⟨_, c1', h1, h2, h3, h4⟩
  ·exact absurd rfl h
  ·omega
  ·obtain rfl : c0 = c1' := by omega
   exact ⟨h3, h4⟩
 obtain ⟨AR, cR, rfl, -⟩ := DD.1.form
 have hsm := hless.small
 have HRK0 := DD.rk (by have := hsm.1; rw [List.length_map] at this; have := HT.out.2.1; show LL.length ≤ 1000000000000000; omega)
 obtain ⟨R, hRe⟩ : ∃ R, LL.map (·.os) = R := ⟨_, rfl⟩
 have hRl : LL.length = R.length := by rw [← hRe, List.length_map]
 rw [hRe] at hless hsm HRK0
 rw [hRl] at HRK0
 rw [hRl]
 have HL := Lib.hid hless
 have HSM := Lib.hid hsm
 have HRO := Lib.hid (less_ok hless HW.out)
 replace S := Lib.hid (S.out.below b4)
 obtain ⟨W5, hW5⟩ : ∃ W5, w4.alloc (.cells #[.slice AR R.length cR] 24) = W5 := ⟨_, rfl⟩
 have b5 : Below w4.heap.size w4 W5 := by rw [← hW5]; exact (Below.refl _ _).alloc (Nat.le_refl _) _
 obtain ⟨g8, hg8⟩ : ∃ g, w4.heap.size = g := ⟨_, rfl⟩
 have C8 : Hid (W5.cell? ⟨g8, 0, none⟩ = some (.slice AR R.length cR)) := Lib.hid (by rw [← hW5, ← hg8]; simp [go_sem])
 have HRK := Lib.hid (HRK0.up b5.size b5)
 replace S := Lib.hid (S.out.below b5)
 have hR16 : (R.length : Int) ≤ 16 := by have := HRO.out.len; omega
 clear b4 b5 hwo DD hless hsm HRK0 hRe hRl x0 x1 x2 x3 x4 wu w2'
 have x0 := S.out.c0
 have x1 := S.out.s0
 have x2 := S.out.s1
 have x3 := S.out.s2
 have x4 := S.out.s3
 go_wp2_with fail
 clear hW5 hg8
 refine (Heads_any _ ws 0 _ (H.out.up S.out.bel.size S.out.bel) (by have := HT.out.1; omega) HCW.out.1).mono ?_
 rintro e w6 ⟨uo, rfl, oo, b6⟩
 rw [okL_zero] at oo
 obtain ⟨AO, cO, rfl, -⟩ := oo.form
 have hhl : (headsL ws).length = s.river.length := by rw [HCW.out.2.r]; simp [headsL]
 rw [hhl]
 rw [hhl] at oo
 have OO := Lib.hid oo
 replace S := Lib.hid (S.out.below b6)
 replace C8 := Lib.hid (BelS.c b6 C8.out)
 replace HRK := Lib.hid (HRK.out.up b6.size b6)
 have HHL := Lib.hid hhl
 clear b6 oo hhl x0 x1 x2 x3 x4
 have x0 := S.out.c0
 have x1 := S.out.s0
 have x2 := S.out.s1
 have x3 := S.out.s2
 have x4 := S.out.s3
 go_wp2_with fail
 refine (Flow_any _ _ ws s 0 _ (H.out.up S.out.bel.size S.out.bel) (by have := HT.out.1; omega) (HS.out.up S.out.bel.size S.out.bel) HD.out).mono ?_
 rintro e w7 ⟨ua, rfl, oa, b7⟩
 rw [okL_zero] at oa
 obtain ⟨AA, cA, rfl, -⟩ := oa.form
 have hal : (flowF ws s).thr.length = s.boards.length := by rw [HCW.out.2.b]; exact thr_len ws s _ (Nat.le_refl _)
 rw [hal]
 rw [hal] at oa
 have OA := Lib.hid oa
 replace S := Lib.hid (S.out.below b7)
 replace C8 := Lib.hid (BelS.c b7 C8.out)
 replace HRK := Lib.hid (HRK.out.up b7.size b7)
 replace OO := Lib.hid (OO.out.below b7)
 have HAL := Lib.hid hal
 clear b7 oa hal x0 x1 x2 x3 x4
 obtain ⟨g, hg⟩ : ∃ g, w7.heap.size = g := ⟨_, rfl⟩
 obtain ⟨W8, hW8⟩ : ∃ W8, w7.alloc (.cells #[.slice none 0 0, .slice none 0 0, .slice none 0 0, .slice none 0 0] 27) = W8 := ⟨_, rfl⟩
 have b8 : Below g w7 W8 := by rw [← hW8, ← hg]; exact (Below.refl _ _).alloc (Nat.le_refl _) _
 have HG := Lib.hid hg
 have GL0 : Hid (GL g (g + 1) [.slice none 0 0, .slice none 0 0, .slice none 0 0, .slice none 0 0] [[], [], [], []] W8) := Lib.hid (by
  refine GL.nils (by omega) (by rw [← hW8, ← hg]; simp) 4 (fun k hk => ?_) (fun k => ?_)
  ·rw [← hW8, ← hg]
   match k, hk with
   | 0, _ => simp [go_sem]
   | 1, _ => simp [go_sem]
   | 2, _ => simp [go_sem]
   | 3, _ => simp [go_sem]
  ·rw [← hW8, ← hg]
   simp [go_sem])
 have B8 := Lib.hid b8
 clear b8
 have x0 := S.out.c0
 have x1 := S.out.s0
 have x2 := S.out.s1
 have x3 := S.out.s2
 have x4 := S.out.s3
 go_wp2_with fail
 clear hW8 hg x0 x1 x2 x3 x4
 have HNB : Hid (s.river.length ≤ 1000 ∧ s.boards.length ≤ 1000) := Lib.hid (by have := HWB.out; omega)
 go_loopw [15] (fun u wr => ∃ (i : Nat) (u0 : Value), u = .int .i64 i ∧ i ≤ s.river.length ∧ Below g w7 wr ∧ LfL g [u0, .slice none 0 0, .slice none 0 0, .slice none 0 0] [lessRiver ws c0 s.river i, [], [], []] (.slice none 0 0) [] wr) (fun u _ => s.river.length - (intOf u).toNat)
 case atStart => exact ⟨0, _, rfl, by omega, B8.out, ⟨GL0.out, OwnG.nil _ _ _ _ _, fun b hb => by cases hb⟩⟩
 case round =>
  obtain ⟨i, u0, rfl, hi, hB, hG⟩ := hrel
  have BB := Lib.hid hB
  have HG_ := Lib.hid hG
  clear hB hG
  have hb7 : Below w7.heap.size w7 wr := by rw [HG.out]; exact BB.out
  by_cases hil : i < s.river.length
  ·have hi0 : (i : Int) < (s.river.length : Int) := by omega
   have hi2 : (0 : Int) ≤ (i : Int) := by omega
   obtain ⟨hh, hhh⟩ : ∃ hh, (headsN ws)[i]? = some hh := ⟨_, List.getElem?_eq_getElem (by rw [← HCW.out.2.r]; exact hil)⟩
   obtain ⟨x, hx⟩ : ∃ x, s.river[i]? = some x := ⟨_, List.getElem?_eq_getElem hil⟩
   have hhL : (headsL ws)[i]? = some (hh : Int) := by unfold headsL; rw [List.getElem?_map, hhh]; rfl
   have HLS := Lib.hid (lessRiver_succ (c0 := c0) hhh hx)
   have hrr := (OO.out.rr EI (by rw [HHL.out]; have := HWB.out; show s.river.length ≤ 1000000000000000; omega)).up hb7.size hb7
   rw [HHL.out.symm] at hrr
   obtain ⟨bo, oo, e0, hb0, q0⟩ := hrr.int hhL
   obtain ⟨be, oe, e1, hb1, q1⟩ := ((HS.out.parts.1).up S.out.bel.size S.out.bel).int hx
   have QE := Lib.hid q1
   have HLL := Lib.hid (lessRiver_len ws c0 s.river i)
   subst e0 e1
   have x1 := (S.out.below hb7).s0
   clear hhL hhh hx hrr hb0 hb1 q1 hb7
   by_cases hhc : hh = c0
   ·have hbn : ((hh : Int) != (c0 : Int)) = false := by rw [bne_eq_false_iff_eq]; omega
    rw [if_pos hhc, List.append_nil] at HLS
    go_wp2_with fail
    go_roundw
    case rel => exact ⟨i + 1, u0, by go_num, by omega, BB.out, by rw [HLS.out]; exact HG_.out⟩
    case measure => show s.river.length - ((i : Int) + 1).toNat < s.river.length - (i : Int).toNat; omega
   ·have hbn : ((hh : Int) != (c0 : Int)) = true := by rw [bne_iff_ne]; omega
    rw [if_neg hhc] at HLS
    obtain ⟨rl, hrl⟩ : ∃ rl, lessRiver ws c0 s.river i = rl := ⟨_, rfl⟩
    rw [hrl] at HG_ HLS HLL
    clear hrl
    replace HNB : Hid (rl.length ≤ 1000) := Lib.hid (by have := HLL.out; have := HWB.out; omega)
    go_upto_region 14 with fail
    obtain ⟨Uf, df, hUf, -⟩ := (HG_.out.gl.o 0 _ _ rfl rfl).form
    obtain ⟨nf, hnf⟩ : ∃ nf, (rl).length = nf := ⟨_, rfl⟩
    rw [hnf] at hUf
    subst hUf
    have HNF := Lib.hid hnf
    clear hnf
    obtain ⟨Wd, hWd⟩ : ∃ Wd, World.drew wr = Wd := ⟨_, rfl⟩
    have bWd : Below wr.heap.size wr Wd := by rw [← hWd]; exact (Below.refl _ _).drew
    have HGd := Lib.hid (HG_.out.below bWd)
    have BBd : Hid (Below g w7 Wd) := Lib.hid (BB.out.trans (bWd.mono (by have := BB.out.size; have := HG.out; omega)))
    have OWN : Hid (∀ b ∈ (Value.slice Uf nf df).ownBlock.toList, g + 1 ≤ b ∧ b < Wd.heap.size) := Lib.hid (fun b hb => HGd.out.gl.own (k := 0) rfl (by simpa using hb))
    have KEEP : Hid (∀ W', GrownL (Value.slice Uf nf df).ownBlock.toList Wd W' → (W'.cell? ⟨w.heap.size + 1, 0, none⟩ = some (.slice (some ⟨be, oe, none⟩) s.river.length c1) ∧ W'.cell? ⟨be, oe + i, none⟩ = some (.int .i64 x)) ∧ W'.cell? ⟨g, 0, none⟩ = some (.slice Uf nf df) ∧ W'.frozen? ⟨g, 0, none⟩ = false ∧ Wd.heap.size ≤ W'.heap.size) := Lib.hid (fun W' hW => by
     have hn : g ∉ (Value.slice Uf nf df).ownBlock.toList := fun hm => by have := (OWN.out _ hm).1; omega
     have bb : Below w7.heap.size w7 W' := by rw [HG.out]; exact BBd.out.trans (hW.below (fun b hb => by have := (OWN.out b hb).1; omega) (by have := BBd.out.size; have := HG.out; omega))
     exact ⟨⟨(S.out.below bb).s0, BelS.c bb QE.out⟩, hW.cell (HGd.out.gl.c 0 _ rfl) hn, (World.frozen?_of_block (a := ⟨g, 0, none⟩) (hW.block _ HGd.out.gl.gl hn)).trans (HGd.out.gl.f 0), hW.size⟩)
    have HWd := Lib.hid hWd
    clear hWd bWd
    refine wp_region_T 10 (S := GrownL (Value.slice Uf nf df).ownBlock.toList (World.drew wr)) (by kernel_rfl) (GrownL.refl _ _) (fun J0 => ?_)
    rw [HWd.out] at J0 ⊢
    refine tt 0 104 J0 ?_ (hy := by intro w' hSw; obtain ⟨⟨q0, q1⟩, qu, -, -⟩ := KEEP.out w' hSw; go_simp; try with_reducible rfl)
    try simp only [aS]
    refine tt 1 105 J0 ?_ (hy := by intro w' hSw; obtain ⟨⟨q0, q1⟩, qu, -, -⟩ := KEEP.out w' hSw; go_simp; try with_reducible rfl)
    try simp only [aS]
    refine tt 2 106 J0 ?_ (hy := by intro w' hSw; obtain ⟨⟨q0, q1⟩, qu, -, -⟩ := KEEP.out w' hSw; go_simp; try with_reducible rfl)
    try simp only [aS]
    refine tt 3 107 J0 ?_ (hy := by intro w' hSw; obtain ⟨⟨q0, q1⟩, qu, -, -⟩ := KEEP.out w' hSw; go_simp; try with_reducible rfl)
    try simp only [aS]
    refine tt 4 108 J0 ?_ (hy := by intro w' hSw; obtain ⟨⟨q0, q1⟩, qu, -, -⟩ := KEEP.out w' hSw; go_simp; try with_reducible rfl)
    try simp only [aS]
    refine tt 5 109 J0 ?_ (hy := by intro w' hSw; obtain ⟨⟨q0, q1⟩, qu, -, -⟩ := KEEP.out w' hSw; go_simp; try with_reducible rfl)
    try simp only [aS]
    refine tt 6 110 J0 ?_ (hy := by intro w' hSw; obtain ⟨⟨q0, q1⟩, qu, -, -⟩ := KEEP.out w' hSw; go_simp; try with_reducible rfl)
    try simp only [aS]
    refine oneT (i := 7) (by kernel_rfl) rfl (fun K hK => ?_)
    go_simp
    obtain ⟨wa, hwa⟩ : ∃ W_, Wd.alloc (.cells #[.int .i64 x] 3) = W_ := ⟨_, rfl⟩
    have ba : Below Wd.heap.size Wd wa := by rw [← hwa]; exact (Below.refl _ _).alloc (Nat.le_refl _) _
    have ca : wa.cell? ⟨Wd.heap.size, 0, none⟩ = some (.int .i64 x) := by rw [← hwa]; simp [go_sem]
    have J2 : GrownL (Value.slice Uf nf df).ownBlock.toList Wd wa := GrownL.of_below ba
    have HGa := Lib.hid (HGd.out.below ba)
    rw [hwa]
    refine hK.out _ _ J2 ?_
    clear hK K hwa
    try simp only [aS]
    refine oneT (i := 8) (by kernel_rfl) rfl (fun K hK => ?_)
    refine step_appA rfl _ _ rfl (g + 1) (Value.slice Uf nf df) (rl) rfl (HGa.out.gl.o 0 _ _ rfl rfl) (by have := HNB.out; omega) Wd.heap.size x rfl ca (by have := HGa.out.gl.gl; omega) (fun v4 w4 ho4 g4 ha4 => ?_)
    have J3 := J2.trans g4
    obtain ⟨y4, z4⟩ : w4.cell? ⟨g, 0, none⟩ = some (.slice Uf nf df) ∧ w4.frozen? ⟨g, 0, none⟩ = false := ⟨(KEEP.out _ J3).2.1, (KEEP.out _ J3).2.2.1⟩
    have hST := HGa.out.step (k := 0) rfl rfl g4 ho4 ha4
    obtain ⟨A9, c9, rfl, -⟩ := ho4.form
    obtain ⟨n9, hn9⟩ : ∃ n9, (rl ++ [x]).length = n9 := ⟨_, rfl⟩
    have hSL : ∀ W', GrownL [g] w4 W' → Below g w7 W' := fun W' hW => by
     have h1 : Below g w7 w4 := BBd.out.trans (J3.below (fun b hb => by have := (OWN.out b hb).1; omega) (by have := BBd.out.size; have := HG.out; omega))
     exact h1.trans (hW.below (by simp) (by have := h1.size; have := HG.out; omega))
    rw [hn9] at hST ⊢
    clear ho4 g4 ha4 ca ba hn9
    refine hK.out _ _ J3 ?_
    clear hK K
    try simp only [aS]
    refine tt 9 113 J3 ?_
    try simp only [aS]
    refine lastT (by kernel_rfl) rfl (fun K hK => ?_)
    go_simp
    refine hK.out _ _ ?_
    clear hK K
    try simp only [aS]
    refine doneT (by kernel_rfl) ?_ _
    obtain ⟨Wn, hWn⟩ : ∃ Wo, w4.setCell ⟨g, 0, none⟩ (.slice A9 n9 c9) = Wo := ⟨_, rfl⟩
    have BN : Hid (Below g w7 Wn) := Lib.hid (hSL Wn (by rw [← hWn]; exact GrownL.set _ _ _ (by simp)))
    rw [hWn] at hST ⊢
    have HN_ := Lib.hid hST
    clear hWn hST hSL J0 J2 J3 y4 z4 KEEP OWN HWd HGd BBd HNF HGa
    go_wp2_with fail
    go_roundw
    case rel => exact ⟨i + 1, _, by go_num, by omega, BN.out, by rw [HLS.out]; exact HN_.out⟩
    case measure => show s.river.length - ((i : Int) + 1).toNat < s.river.length - (i : Int).toNat; omega
  ·have hi0 : (s.river.length : Int) ≤ (i : Int) := by omega
   obtain rfl : i = s.river.length := by omega
   clear hb7
   obtain ⟨rv, hrv⟩ : ∃ rv, lessRiver ws c0 s.river s.river.length = rv := ⟨_, rfl⟩
   obtain ⟨TT, hTT⟩ : ∃ TT, (flowF ws s).thr = TT := ⟨_, rfl⟩
   have HRV := Lib.hid hrv
   have HTT := Lib.hid hTT
   rw [hrv] at HG_
   rw [hTT] at OA HAL
   clear hrv hTT
   have hb7 : Below w7.heap.size w7 wr := by rw [HG.out]; exact BB.out
   have x8 := BelS.c hb7 C8.out
   clear hb7
   go_wp2_with fail
   clear x8
   have PZ : pre R 0 = 0 := pre_zero R
   go_loopw [16, 17] (fun u16 u17 wr => ∃ (k : Nat) (u1 u2 u3 : Value), u17 = .int .i64 k ∧ k ≤ R.length ∧ Below g w7 wr ∧ LfL g [u0, u1, u2, u3] [rv, kpL ws c0 s.boards (pre R k), kpL ws c0 s.leaks (pre R k), kpL ws c0 s.losses (pre R k)] u16 (kpL ws c0 TT (pre R k)) wr) (fun _ u _ => R.length - (intOf u).toNat)
   case atStart => exact ⟨0, _, _, _, rfl, by omega, BB.out, by rw [PZ, kpL_zero, kpL_zero, kpL_zero, kpL_zero]; exact HG_.out⟩
   case round =>
    clear PZ
    obtain ⟨k, u1, u2, u3, rfl, hk, hB, hG⟩ := hrel
    replace BB := Lib.hid hB
    replace HG_ := Lib.hid hG
    clear hB hG
    have hb7 : Below w7.heap.size w7 wr := by rw [HG.out]; exact BB.out
    have x8 := BelS.c hb7 C8.out
    by_cases hkl : k < R.length
    ·have hk0 : (k : Int) < (R.length : Int) := by omega
     have hk2 : (0 : Int) ≤ (k : Int) := by omega
     obtain ⟨os, hos⟩ : ∃ os, R[k]? = some os := ⟨_, List.getElem?_eq_getElem hkl⟩
     obtain ⟨b, o, A', c', hA, hb, hcell, hro⟩ := HRK.out.carrier hos
     have HOS := Lib.hid hos
     have HCE := Lib.hid (And.intro hb hcell)
     have HRO2 := Lib.hid hro
     have hol : (os.length : Int) ≤ 100000 := by have := (HSM.out.2 os (List.mem_of_getElem? hos)).1; have := HT.out.1; omega
     subst hA
     have x9 := BelS.c hb7 hcell
     have HG3 := HG_
     have HPS := Lib.hid (pre_succ hos)
     clear hos hcell hro hb7 hb
     go_wp2_with fail
     clear x8 x9
     go_loopw [16, 18] (fun u16 u18 wi => ∃ (j : Nat) (u1 u2 u3 : Value), u18 = .int .i64 j ∧ j ≤ os.length ∧ Below g w7 wi ∧ LfL g [u0, u1, u2, u3] [rv, kpL ws c0 s.boards (pre R k + j), kpL ws c0 s.leaks (pre R k + j), kpL ws c0 s.losses (pre R k + j)] u16 (kpL ws c0 TT (pre R k + j)) wi) (fun _ u _ => os.length - (intOf u).toNat)
     case atStart => exact ⟨0, _, _, _, rfl, by omega, BB.out, HG_.out⟩
     case round =>
      obtain ⟨j, u1, u2, u3, rfl, hj, hB, hG⟩ := hrel
      replace BB := Lib.hid hB
      replace HG_ := Lib.hid hG
      clear hB hG HG3
      have hb7 : Below w7.heap.size w7 wr := by rw [HG.out]; exact BB.out
      have x0 := (S.out.below hb7).c0
      have x8 := BelS.c hb7 C8.out
      have x9 := BelS.c hb7 HCE.out.2
      by_cases hjl : j < os.length
      ·have hj0 : (j : Int) < (os.length : Int) := by omega
       have hj2 : (0 : Int) ≤ (j : Int) := by omega
       obtain ⟨oj, hoj⟩ : ∃ oj, os[j]? = some oj := ⟨_, List.getElem?_eq_getElem hjl⟩
       obtain ⟨n, hnt, hkn, hfi⟩ := less_id HL.out HW.out HOS.out hoj
       obtain ⟨B2, C2, E2, -, Q2⟩ := HRO2.out
       obtain ⟨b2, o2, E3, hb2, Q2⟩ := Q2 (by omega)
       simp only [Value.slice.injEq] at E2
       obtain ⟨E2, -, -⟩ := E2
       rw [E3] at E2
       subst E2
       have xid := BelS.c hb7 (Q2 j oj hoj).id
       have HFI := Lib.hid hfi
       have HKN := Lib.hid (And.intro hnt hkn)
       have bwr : Below w.heap.size w wr := (S.out.below hb7).bel
       have HBW := Lib.hid bwr
       clear hoj hfi Q2 E3 hb7 bwr
       go_upto_region 22 with fail
       refine wp_region_held_drew (S := BelS wr) (by kernel_rfl) (BelS.drew0 _) (fun J0 => ?_)
       refine tw 0 132 J0 ?_ (hy := by intro w' hSw; have r0 := hSw.c x0; go_simp; try with_reducible rfl)
       try simp only [aS]
       refine tw 1 133 J0 ?_
       try simp only [aS]
       refine tw 2 134 J0 ?_ (hy := by intro w' hSw; have r0 := hSw.c x8; go_simp; try with_reducible rfl)
       try simp only [aS]
       refine tw 3 135 J0 ?_
       try simp only [aS]
       refine tw 4 136 J0 ?_
       try simp only [aS]
       refine tw 5 137 J0 ?_
       try simp only [aS]
       refine tw 6 138 J0 ?_ (hy := by intro w' hSw; have r0 := hSw.c x9; go_simp; try with_reducible rfl)
       try simp only [aS]
       refine tw 7 139 J0 ?_
       try simp only [aS]
       refine tw 8 140 J0 ?_
       try simp only [aS]
       refine tw 9 141 J0 ?_
       try simp only [aS]
       refine tw 10 142 J0 ?_ (hy := by intro w' hSw; have r0 := hSw.c xid; go_simp; try with_reducible rfl)
       try simp only [aS]
       refine wpAnyH_ready (rs := [11]) (by kernel_rfl) (by simp) ?_
       refine AllReadyH.cons rfl (fun K hK => ?_) AllReadyH.nil
       go_simp
       refine (place_any A c ws oj.id n _ (H.out.up (HBW.out.trans ((BelS.b J0).mono HBW.out.size)).size (HBW.out.trans ((BelS.b J0).mono HBW.out.size))) (by have := HT.out.1; omega) (by have := HT.out.2.1; omega) HFI.out).mono ?_
       rintro e wq ⟨rfl, bq⟩
       have J1 := J0.below bq
       refine hK.out _ _ J1 (fun _ => ?_)
       clear hK K
       try simp only [aS]
       refine tw 12 19 J1 ?_
       try simp only [aS]
       refine wpAnyH_done (by kernel_rfl) ?_ _
       obtain ⟨wq', hwq⟩ : ∃ W, wq = W := ⟨_, rfl⟩
       rw [hwq] at J1 ⊢
       have bw := BelS.b J1
       replace BB : Hid (Below g w7 wq') := Lib.hid (BB.out.trans (bw.mono (by have := BB.out.size; have := HG.out; omega)))
       replace HG_ := Lib.hid (HG_.out.below bw)
       clear hwq bq J0 J1 bw x0 x8 x9 xid
       have hn0 : (0 : Int) ≤ (n : Int) := by omega
       have hnb : n < s.boards.length := by rw [HCW.out.2.b]; exact HKN.out.1
       have hnb0 : (n : Int) < (s.boards.length : Int) := by omega
       have hnk : n < s.leaks.length := by rw [HCW.out.2.k]; exact HKN.out.1
       have hnk0 : (n : Int) < (s.leaks.length : Int) := by omega
       have hnl : n < s.losses.length := by rw [HCW.out.2.l]; exact HKN.out.1
       have hnl0 : (n : Int) < (s.losses.length : Int) := by omega
       obtain ⟨xb, hxb⟩ : ∃ x, s.boards[n]? = some x := ⟨_, List.getElem?_eq_getElem hnb⟩
       obtain ⟨xk, hxk⟩ : ∃ x, s.leaks[n]? = some x := ⟨_, List.getElem?_eq_getElem hnk⟩
       obtain ⟨xl, hxl⟩ : ∃ x, s.losses[n]? = some x := ⟨_, List.getElem?_eq_getElem hnl⟩
       obtain ⟨xt, hxt⟩ : ∃ x, TT[n]? = some x := ⟨_, List.getElem?_eq_getElem (by rw [HAL.out]; exact hnb)⟩
       have K1 := Lib.hid (kpL_succ HKN.out.2 hxb)
       have K2 := Lib.hid (kpL_succ HKN.out.2 hxk)
       have K3 := Lib.hid (kpL_succ HKN.out.2 hxl)
       have K4 := Lib.hid (kpL_succ HKN.out.2 hxt)
       have M1 := kpL_len ws c0 s.boards (pre R k + j)
       have M2 := kpL_len ws c0 s.leaks (pre R k + j)
       have M3 := kpL_len ws c0 s.losses (pre R k + j)
       have M4 := kpL_len ws c0 TT (pre R k + j)
       have M5 : pre R k + j ≤ 90 := by
        have h1 := pre_le R (k + 1)
        have h2 := HPS.out
        have h3 := HRO.out.tot
        omega
       have P2 := (HS.out.parts.2.1).up S.out.bel.size S.out.bel
       have P3 := (HS.out.parts.2.2.1).up S.out.bel.size S.out.bel
       have P4 := (HS.out.parts.2.2.2).up S.out.bel.size S.out.bel
       obtain ⟨be1, oe1, e1, -, q1⟩ := P2.int hxb
       obtain ⟨be2, oe2, e2, -, q2⟩ := P3.int hxk
       obtain ⟨be3, oe3, e3, -, q3⟩ := P4.int hxl
       have PA := OA.out.rr EI (by rw [HAL.out]; have := HWB.out; show s.boards.length ≤ 1000000000000000; omega)
       obtain ⟨be4, oe4, e4, -, q4⟩ := PA.int hxt
       subst e1 e2 e3 e4
       have QE1 := Lib.hid q1
       have QE2 := Lib.hid q2
       have QE3 := Lib.hid q3
       have QE4 := Lib.hid q4
       obtain ⟨lb, hlb⟩ : ∃ l, kpL ws c0 s.boards (pre R k + j) = l := ⟨_, rfl⟩
       obtain ⟨lk, hlk⟩ : ∃ l, kpL ws c0 s.leaks (pre R k + j) = l := ⟨_, rfl⟩
       obtain ⟨ll, hll⟩ : ∃ l, kpL ws c0 s.losses (pre R k + j) = l := ⟨_, rfl⟩
       obtain ⟨lt, hlt⟩ : ∃ l, kpL ws c0 TT (pre R k + j) = l := ⟨_, rfl⟩
       rw [hlb] at HG_ K1 M1
       rw [hlk] at HG_ K2 M2
       rw [hll] at HG_ K3 M3
       rw [hlt] at HG_ K4 M4
       have HMM := Lib.hid (And.intro M1 (And.intro M2 (And.intro M3 (And.intro M4 M5))))
       clear hlb hlk hll hlt M1 M2 M3 M4 M5 hxb hxk hxl hxt q1 q2 q3 q4 P2 P3 P4 PA
       replace HNB : Hid (lb.length ≤ 1000) := Lib.hid (by have := HMM.out; omega)
       go_upto_region 25 with fail
       obtain ⟨Uf, df, hUf, -⟩ := (HG_.out.gl.o 1 _ _ rfl rfl).form
       obtain ⟨nf, hnf⟩ : ∃ nf, (lb).length = nf := ⟨_, rfl⟩
       rw [hnf] at hUf
       subst hUf
       have HNF := Lib.hid hnf
       clear hnf
       obtain ⟨Wd, hWd⟩ : ∃ Wd, World.drew wq' = Wd := ⟨_, rfl⟩
       have bWd : Below wq'.heap.size wq' Wd := by rw [← hWd]; exact (Below.refl _ _).drew
       have HGd := Lib.hid (HG_.out.below bWd)
       have BBd : Hid (Below g w7 Wd) := Lib.hid (BB.out.trans (bWd.mono (by have := BB.out.size; have := HG.out; omega)))
       have OWN : Hid (∀ b ∈ (Value.slice Uf nf df).ownBlock.toList, g + 1 ≤ b ∧ b < Wd.heap.size) := Lib.hid (fun b hb => HGd.out.gl.own (k := 1) rfl (by simpa using hb))
       have KEEP : Hid (∀ W', GrownL (Value.slice Uf nf df).ownBlock.toList Wd W' → (W'.cell? ⟨w.heap.size + 1, 1, none⟩ = some (.slice (some ⟨be1, oe1, none⟩) s.boards.length c2) ∧ W'.cell? ⟨be1, oe1 + n, none⟩ = some (.int .i64 xb)) ∧ W'.cell? ⟨g, 1, none⟩ = some (.slice Uf nf df) ∧ W'.frozen? ⟨g, 1, none⟩ = false ∧ Wd.heap.size ≤ W'.heap.size) := Lib.hid (fun W' hW => by
        have hn : g ∉ (Value.slice Uf nf df).ownBlock.toList := fun hm => by have := (OWN.out _ hm).1; omega
        have bb : Below w7.heap.size w7 W' := by rw [HG.out]; exact BBd.out.trans (hW.below (fun b hb => by have := (OWN.out b hb).1; omega) (by have := BBd.out.size; have := HG.out; omega))
        exact ⟨⟨(S.out.below bb).s1, BelS.c bb QE1.out⟩, hW.cell (HGd.out.gl.c 1 _ rfl) hn, (World.frozen?_of_block (a := ⟨g, 1, none⟩) (hW.block _ HGd.out.gl.gl hn)).trans (HGd.out.gl.f 1), hW.size⟩)
       have HWd := Lib.hid hWd
       clear hWd bWd
       refine wp_region_T 10 (S := GrownL (Value.slice Uf nf df).ownBlock.toList (World.drew wq')) (by kernel_rfl) (GrownL.refl _ _) (fun J0 => ?_)
       rw [HWd.out] at J0 ⊢
       refine tt 0 146 J0 ?_ (hy := by intro w' hSw; obtain ⟨⟨q0, q1⟩, qu, -, -⟩ := KEEP.out w' hSw; go_simp; try with_reducible rfl)
       try simp only [aS]
       refine tt 1 147 J0 ?_ (hy := by intro w' hSw; obtain ⟨⟨q0, q1⟩, qu, -, -⟩ := KEEP.out w' hSw; go_simp; try with_reducible rfl)
       try simp only [aS]
       refine tt 2 148 J0 ?_ (hy := by intro w' hSw; obtain ⟨⟨q0, q1⟩, qu, -, -⟩ := KEEP.out w' hSw; go_simp; try with_reducible rfl)
       try simp only [aS]
       refine tt 3 149 J0 ?_ (hy := by intro w' hSw; obtain ⟨⟨q0, q1⟩, qu, -, -⟩ := KEEP.out w' hSw; go_simp; try with_reducible rfl)
       try simp only [aS]
       refine tt 4 150 J0 ?_ (hy := by intro w' hSw; obtain ⟨⟨q0, q1⟩, qu, -, -⟩ := KEEP.out w' hSw; go_simp; try with_reducible rfl)
       try simp only [aS]
       refine tt 5 151 J0 ?_ (hy := by intro w' hSw; obtain ⟨⟨q0, q1⟩, qu, -, -⟩ := KEEP.out w' hSw; go_simp; try with_reducible rfl)
       try simp only [aS]
       refine tt 6 152 J0 ?_ (hy := by intro w' hSw; obtain ⟨⟨q0, q1⟩, qu, -, -⟩ := KEEP.out w' hSw; go_simp; try with_reducible rfl)
       try simp only [aS]
       refine oneT (i := 7) (by kernel_rfl) rfl (fun K hK => ?_)
       go_simp
       obtain ⟨wa, hwa⟩ : ∃ W_, Wd.alloc (.cells #[.int .i64 xb] 3) = W_ := ⟨_, rfl⟩
       have ba : Below Wd.heap.size Wd wa := by rw [← hwa]; exact (Below.refl _ _).alloc (Nat.le_refl _) _
       have ca : wa.cell? ⟨Wd.heap.size, 0, none⟩ = some (.int .i64 xb) := by rw [← hwa]; simp [go_sem]
       have J2 : GrownL (Value.slice Uf nf df).ownBlock.toList Wd wa := GrownL.of_below ba
       have HGa := Lib.hid (HGd.out.below ba)
       rw [hwa]
       refine hK.out _ _ J2 ?_
       clear hK K hwa
       try simp only [aS]
       refine oneT (i := 8) (by kernel_rfl) rfl (fun K hK => ?_)
       refine step_appA rfl _ _ rfl (g + 1) (Value.slice Uf nf df) (lb) rfl (HGa.out.gl.o 1 _ _ rfl rfl) (by have := HNB.out; omega) Wd.heap.size xb rfl ca (by have := HGa.out.gl.gl; omega) (fun v4 w4 ho4 g4 ha4 => ?_)
       have J3 := J2.trans g4
       obtain ⟨y4, z4⟩ : w4.cell? ⟨g, 1, none⟩ = some (.slice Uf nf df) ∧ w4.frozen? ⟨g, 1, none⟩ = false := ⟨(KEEP.out _ J3).2.1, (KEEP.out _ J3).2.2.1⟩
       have hST := HGa.out.step (k := 1) rfl rfl g4 ho4 ha4
       obtain ⟨A9, c9, rfl, -⟩ := ho4.form
       obtain ⟨n9, hn9⟩ : ∃ n9, (lb ++ [xb]).length = n9 := ⟨_, rfl⟩
       have hSL : ∀ W', GrownL [g] w4 W' → Below g w7 W' := fun W' hW => by
        have h1 : Below g w7 w4 := BBd.out.trans (J3.below (fun b hb => by have := (OWN.out b hb).1; omega) (by have := BBd.out.size; have := HG.out; omega))
        exact h1.trans (hW.below (by simp) (by have := h1.size; have := HG.out; omega))
       rw [hn9] at hST ⊢
       clear ho4 g4 ha4 ca ba hn9
       refine hK.out _ _ J3 ?_
       clear hK K
       try simp only [aS]
       refine tt 9 155 J3 ?_
       try simp only [aS]
       refine lastT (by kernel_rfl) rfl (fun K hK => ?_)
       go_simp
       refine hK.out _ _ ?_
       clear hK K
       try simp only [aS]
       refine doneT (by kernel_rfl) ?_ _
       obtain ⟨Wn1, hWn⟩ : ∃ Wo, w4.setCell ⟨g, 1, none⟩ (.slice A9 n9 c9) = Wo := ⟨_, rfl⟩
       have BN : Hid (Below g w7 Wn1) := Lib.hid (hSL Wn1 (by rw [← hWn]; exact GrownL.set _ _ _ (by simp)))
       rw [hWn] at hST ⊢
       have HN_ := Lib.hid hST
       clear hWn hST hSL J0 J2 J3 y4 z4 KEEP OWN HWd HGd BBd HNF HGa
       clear HG_
       obtain ⟨P1, p1, o1, hP1⟩ : ∃ (a : Option Addr) (p o : Nat), a = A9 ∧ p = n9 ∧ o = c9 := ⟨_, _, _, rfl, rfl, rfl⟩
       obtain ⟨rfl, rfl, rfl⟩ := hP1
       replace BB := BN
       clear BN
       have HG_ : Hid (LfL g [u0, .slice P1 p1 o1, u2, u3] [rv, lb ++ [xb], lk, ll] u16 lt Wn1) := Lib.hid HN_.out
       clear HN_
       replace HNB : Hid ((lk).length ≤ 1000) := Lib.hid (by have := HMM.out; omega)
       go_upto_region 26 with fail
       obtain ⟨Uf, df, hUf, -⟩ := (HG_.out.gl.o 2 _ _ rfl rfl).form
       obtain ⟨nf, hnf⟩ : ∃ nf, (lk).length = nf := ⟨_, rfl⟩
       rw [hnf] at hUf
       subst hUf
       have HNF := Lib.hid hnf
       clear hnf
       obtain ⟨Wd, hWd⟩ : ∃ Wd, World.drew Wn1 = Wd := ⟨_, rfl⟩
       have bWd : Below Wn1.heap.size Wn1 Wd := by rw [← hWd]; exact (Below.refl _ _).drew
       have HGd := Lib.hid (HG_.out.below bWd)
       have BBd : Hid (Below g w7 Wd) := Lib.hid (BB.out.trans (bWd.mono (by have := BB.out.size; have := HG.out; omega)))
       have OWN : Hid (∀ b ∈ (Value.slice Uf nf df).ownBlock.toList, g + 1 ≤ b ∧ b < Wd.heap.size) := Lib.hid (fun b hb => HGd.out.gl.own (k := 2) rfl (by simpa using hb))
       have KEEP : Hid (∀ W', GrownL (Value.slice Uf nf df).ownBlock.toList Wd W' → (W'.cell? ⟨w.heap.size + 1, 2, none⟩ = some (.slice (some ⟨be2, oe2, none⟩) s.leaks.length c3) ∧ W'.cell? ⟨be2, oe2 + n, none⟩ = some (.int .i64 xk)) ∧ W'.cell? ⟨g, 2, none⟩ = some (.slice Uf nf df) ∧ W'.frozen? ⟨g, 2, none⟩ = false ∧ Wd.heap.size ≤ W'.heap.size) := Lib.hid (fun W' hW => by
        have hn : g ∉ (Value.slice Uf nf df).ownBlock.toList := fun hm => by have := (OWN.out _ hm).1; omega
        have bb : Below w7.heap.size w7 W' := by rw [HG.out]; exact BBd.out.trans (hW.below (fun b hb => by have := (OWN.out b hb).1; omega) (by have := BBd.out.size; have := HG.out; omega))
        exact ⟨⟨(S.out.below bb).s2, BelS.c bb QE2.out⟩, hW.cell (HGd.out.gl.c 2 _ rfl) hn, (World.frozen?_of_block (a := ⟨g, 2, none⟩) (hW.block _ HGd.out.gl.gl hn)).trans (HGd.out.gl.f 2), hW.size⟩)
       have HWd := Lib.hid hWd
       clear hWd bWd
       refine wp_region_T 10 (S := GrownL (Value.slice Uf nf df).ownBlock.toList (World.drew Wn1)) (by kernel_rfl) (GrownL.refl _ _) (fun J0 => ?_)
       rw [HWd.out] at J0 ⊢
       refine tt 0 156 J0 ?_ (hy := by intro w' hSw; obtain ⟨⟨q0, q1⟩, qu, -, -⟩ := KEEP.out w' hSw; go_simp; try with_reducible rfl)
       try simp only [aS]
       refine tt 1 157 J0 ?_ (hy := by intro w' hSw; obtain ⟨⟨q0, q1⟩, qu, -, -⟩ := KEEP.out w' hSw; go_simp; try with_reducible rfl)
       try simp only [aS]
       refine tt 2 158 J0 ?_ (hy := by intro w' hSw; obtain ⟨⟨q0, q1⟩, qu, -, -⟩ := KEEP.out w' hSw; go_simp; try with_reducible rfl)
       try simp only [aS]
       refine tt 3 159 J0 ?_ (hy := by intro w' hSw; obtain ⟨⟨q0, q1⟩, qu, -, -⟩ := KEEP.out w' hSw; go_simp; try with_reducible rfl)
       try simp only [aS]
       refine tt 4 160 J0 ?_ (hy := by intro w' hSw; obtain ⟨⟨q0, q1⟩, qu, -, -⟩ := KEEP.out w' hSw; go_simp; try with_reducible rfl)
       try simp only [aS]
       refine tt 5 161 J0 ?_ (hy := by intro w' hSw; obtain ⟨⟨q0, q1⟩, qu, -, -⟩ := KEEP.out w' hSw; go_simp; try with_reducible rfl)
       try simp only [aS]
       refine tt 6 162 J0 ?_ (hy := by intro w' hSw; obtain ⟨⟨q0, q1⟩, qu, -, -⟩ := KEEP.out w' hSw; go_simp; try with_reducible rfl)
       try simp only [aS]
       refine oneT (i := 7) (by kernel_rfl) rfl (fun K hK => ?_)
       go_simp
       obtain ⟨wa, hwa⟩ : ∃ W_, Wd.alloc (.cells #[.int .i64 xk] 3) = W_ := ⟨_, rfl⟩
       have ba : Below Wd.heap.size Wd wa := by rw [← hwa]; exact (Below.refl _ _).alloc (Nat.le_refl _) _
       have ca : wa.cell? ⟨Wd.heap.size, 0, none⟩ = some (.int .i64 xk) := by rw [← hwa]; simp [go_sem]
       have J2 : GrownL (Value.slice Uf nf df).ownBlock.toList Wd wa := GrownL.of_below ba
       have HGa := Lib.hid (HGd.out.below ba)
       rw [hwa]
       refine hK.out _ _ J2 ?_
       clear hK K hwa
       try simp only [aS]
       refine oneT (i := 8) (by kernel_rfl) rfl (fun K hK => ?_)
       refine step_appA rfl _ _ rfl (g + 1) (Value.slice Uf nf df) (lk) rfl (HGa.out.gl.o 2 _ _ rfl rfl) (by have := HNB.out; omega) Wd.heap.size xk rfl ca (by have := HGa.out.gl.gl; omega) (fun v4 w4 ho4 g4 ha4 => ?_)
       have J3 := J2.trans g4
       obtain ⟨y4, z4⟩ : w4.cell? ⟨g, 2, none⟩ = some (.slice Uf nf df) ∧ w4.frozen? ⟨g, 2, none⟩ = false := ⟨(KEEP.out _ J3).2.1, (KEEP.out _ J3).2.2.1⟩
       have hST := HGa.out.step (k := 2) rfl rfl g4 ho4 ha4
       obtain ⟨A9, c9, rfl, -⟩ := ho4.form
       obtain ⟨n9, hn9⟩ : ∃ n9, (lk ++ [xk]).length = n9 := ⟨_, rfl⟩
       have hSL : ∀ W', GrownL [g] w4 W' → Below g w7 W' := fun W' hW => by
        have h1 : Below g w7 w4 := BBd.out.trans (J3.below (fun b hb => by have := (OWN.out b hb).1; omega) (by have := BBd.out.size; have := HG.out; omega))
        exact h1.trans (hW.below (by simp) (by have := h1.size; have := HG.out; omega))
       rw [hn9] at hST ⊢
       clear ho4 g4 ha4 ca ba hn9
       refine hK.out _ _ J3 ?_
       clear hK K
       try simp only [aS]
       refine tt 9 165 J3 ?_
       try simp only [aS]
       refine lastT (by kernel_rfl) rfl (fun K hK => ?_)
       go_simp
       refine hK.out _ _ ?_
       clear hK K
       try simp only [aS]
       refine doneT (by kernel_rfl) ?_ _
       obtain ⟨Wn2, hWn⟩ : ∃ Wo, w4.setCell ⟨g, 2, none⟩ (.slice A9 n9 c9) = Wo := ⟨_, rfl⟩
       have BN : Hid (Below g w7 Wn2) := Lib.hid (hSL Wn2 (by rw [← hWn]; exact GrownL.set _ _ _ (by simp)))
       rw [hWn] at hST ⊢
       have HN_ := Lib.hid hST
       clear hWn hST hSL J0 J2 J3 y4 z4 KEEP OWN HWd HGd BBd HNF HGa
       clear HG_
       obtain ⟨P2, p2, o2, hP2⟩ : ∃ (a : Option Addr) (p o : Nat), a = A9 ∧ p = n9 ∧ o = c9 := ⟨_, _, _, rfl, rfl, rfl⟩
       obtain ⟨rfl, rfl, rfl⟩ := hP2
       replace BB := BN
       clear BN
       have HG_ : Hid (LfL g [u0, .slice P1 p1 o1, .slice P2 p2 o2, u3] [rv, lb ++ [xb], lk ++ [xk], ll] u16 lt Wn2) := Lib.hid HN_.out
       clear HN_
       replace HNB : Hid ((ll).length ≤ 1000) := Lib.hid (by have := HMM.out; omega)
       go_upto_region 27 with fail
       obtain ⟨Uf, df, hUf, -⟩ := (HG_.out.gl.o 3 _ _ rfl rfl).form
       obtain ⟨nf, hnf⟩ : ∃ nf, (ll).length = nf := ⟨_, rfl⟩
       rw [hnf] at hUf
       subst hUf
       have HNF := Lib.hid hnf
       clear hnf
       obtain ⟨Wd, hWd⟩ : ∃ Wd, World.drew Wn2 = Wd := ⟨_, rfl⟩
       have bWd : Below Wn2.heap.size Wn2 Wd := by rw [← hWd]; exact (Below.refl _ _).drew
       have HGd := Lib.hid (HG_.out.below bWd)
       have BBd : Hid (Below g w7 Wd) := Lib.hid (BB.out.trans (bWd.mono (by have := BB.out.size; have := HG.out; omega)))
       have OWN : Hid (∀ b ∈ (Value.slice Uf nf df).ownBlock.toList, g + 1 ≤ b ∧ b < Wd.heap.size) := Lib.hid (fun b hb => HGd.out.gl.own (k := 3) rfl (by simpa using hb))
       have KEEP : Hid (∀ W', GrownL (Value.slice Uf nf df).ownBlock.toList Wd W' → (W'.cell? ⟨w.heap.size + 1, 3, none⟩ = some (.slice (some ⟨be3, oe3, none⟩) s.losses.length c4) ∧ W'.cell? ⟨be3, oe3 + n, none⟩ = some (.int .i64 xl)) ∧ W'.cell? ⟨g, 3, none⟩ = some (.slice Uf nf df) ∧ W'.frozen? ⟨g, 3, none⟩ = false ∧ Wd.heap.size ≤ W'.heap.size) := Lib.hid (fun W' hW => by
        have hn : g ∉ (Value.slice Uf nf df).ownBlock.toList := fun hm => by have := (OWN.out _ hm).1; omega
        have bb : Below w7.heap.size w7 W' := by rw [HG.out]; exact BBd.out.trans (hW.below (fun b hb => by have := (OWN.out b hb).1; omega) (by have := BBd.out.size; have := HG.out; omega))
        exact ⟨⟨(S.out.below bb).s3, BelS.c bb QE3.out⟩, hW.cell (HGd.out.gl.c 3 _ rfl) hn, (World.frozen?_of_block (a := ⟨g, 3, none⟩) (hW.block _ HGd.out.gl.gl hn)).trans (HGd.out.gl.f 3), hW.size⟩)
       have HWd := Lib.hid hWd
       clear hWd bWd
       refine wp_region_T 10 (S := GrownL (Value.slice Uf nf df).ownBlock.toList (World.drew Wn2)) (by kernel_rfl) (GrownL.refl _ _) (fun J0 => ?_)
       rw [HWd.out] at J0 ⊢
       refine tt 0 166 J0 ?_ (hy := by intro w' hSw; obtain ⟨⟨q0, q1⟩, qu, -, -⟩ := KEEP.out w' hSw; go_simp; try with_reducible rfl)
       try simp only [aS]
       refine tt 1 167 J0 ?_ (hy := by intro w' hSw; obtain ⟨⟨q0, q1⟩, qu, -, -⟩ := KEEP.out w' hSw; go_simp; try with_reducible rfl)
       try simp only [aS]
       refine tt 2 168 J0 ?_ (hy := by intro w' hSw; obtain ⟨⟨q0, q1⟩, qu, -, -⟩ := KEEP.out w' hSw; go_simp; try with_reducible rfl)
       try simp only [aS]
       refine tt 3 169 J0 ?_ (hy := by intro w' hSw; obtain ⟨⟨q0, q1⟩, qu, -, -⟩ := KEEP.out w' hSw; go_simp; try with_reducible rfl)
       try simp only [aS]
       refine tt 4 170 J0 ?_ (hy := by intro w' hSw; obtain ⟨⟨q0, q1⟩, qu, -, -⟩ := KEEP.out w' hSw; go_simp; try with_reducible rfl)
       try simp only [aS]
       refine tt 5 171 J0 ?_ (hy := by intro w' hSw; obtain ⟨⟨q0, q1⟩, qu, -, -⟩ := KEEP.out w' hSw; go_simp; try with_reducible rfl)
       try simp only [aS]
       refine tt 6 172 J0 ?_ (hy := by intro w' hSw; obtain ⟨⟨q0, q1⟩, qu, -, -⟩ := KEEP.out w' hSw; go_simp; try with_reducible rfl)
       try simp only [aS]
       refine oneT (i := 7) (by kernel_rfl) rfl (fun K hK => ?_)
       go_simp
       obtain ⟨wa, hwa⟩ : ∃ W_, Wd.alloc (.cells #[.int .i64 xl] 3) = W_ := ⟨_, rfl⟩
       have ba : Below Wd.heap.size Wd wa := by rw [← hwa]; exact (Below.refl _ _).alloc (Nat.le_refl _) _
       have ca : wa.cell? ⟨Wd.heap.size, 0, none⟩ = some (.int .i64 xl) := by rw [← hwa]; simp [go_sem]
       have J2 : GrownL (Value.slice Uf nf df).ownBlock.toList Wd wa := GrownL.of_below ba
       have HGa := Lib.hid (HGd.out.below ba)
       rw [hwa]
       refine hK.out _ _ J2 ?_
       clear hK K hwa
       try simp only [aS]
       refine oneT (i := 8) (by kernel_rfl) rfl (fun K hK => ?_)
       refine step_appA rfl _ _ rfl (g + 1) (Value.slice Uf nf df) (ll) rfl (HGa.out.gl.o 3 _ _ rfl rfl) (by have := HNB.out; omega) Wd.heap.size xl rfl ca (by have := HGa.out.gl.gl; omega) (fun v4 w4 ho4 g4 ha4 => ?_)
       have J3 := J2.trans g4
       obtain ⟨y4, z4⟩ : w4.cell? ⟨g, 3, none⟩ = some (.slice Uf nf df) ∧ w4.frozen? ⟨g, 3, none⟩ = false := ⟨(KEEP.out _ J3).2.1, (KEEP.out _ J3).2.2.1⟩
       have hST := HGa.out.step (k := 3) rfl rfl g4 ho4 ha4
       obtain ⟨A9, c9, rfl, -⟩ := ho4.form
       obtain ⟨n9, hn9⟩ : ∃ n9, (ll ++ [xl]).length = n9 := ⟨_, rfl⟩
       have hSL : ∀ W', GrownL [g] w4 W' → Below g w7 W' := fun W' hW => by
        have h1 : Below g w7 w4 := BBd.out.trans (J3.below (fun b hb => by have := (OWN.out b hb).1; omega) (by have := BBd.out.size; have := HG.out; omega))
        exact h1.trans (hW.below (by simp) (by have := h1.size; have := HG.out; omega))
       rw [hn9] at hST ⊢
       clear ho4 g4 ha4 ca ba hn9
       refine hK.out _ _ J3 ?_
       clear hK K
       try simp only [aS]
       refine tt 9 175 J3 ?_
       try simp only [aS]
       refine lastT (by kernel_rfl) rfl (fun K hK => ?_)
       go_simp
       refine hK.out _ _ ?_
       clear hK K
       try simp only [aS]
       refine doneT (by kernel_rfl) ?_ _
       obtain ⟨Wn3, hWn⟩ : ∃ Wo, w4.setCell ⟨g, 3, none⟩ (.slice A9 n9 c9) = Wo := ⟨_, rfl⟩
       have BN : Hid (Below g w7 Wn3) := Lib.hid (hSL Wn3 (by rw [← hWn]; exact GrownL.set _ _ _ (by simp)))
       rw [hWn] at hST ⊢
       have HN_ := Lib.hid hST
       clear hWn hST hSL J0 J2 J3 y4 z4 KEEP OWN HWd HGd BBd HNF HGa
       clear HG_
       obtain ⟨P3, p3, o3, hP3⟩ : ∃ (a : Option Addr) (p o : Nat), a = A9 ∧ p = n9 ∧ o = c9 := ⟨_, _, _, rfl, rfl, rfl⟩
       obtain ⟨rfl, rfl, rfl⟩ := hP3
       replace BB := BN
       clear BN
       have HG_ : Hid (LfL g [u0, .slice P1 p1 o1, .slice P2 p2 o2, .slice P3 p3 o3] [rv, lb ++ [xb], lk ++ [xk], ll ++ [xl]] u16 lt Wn3) := Lib.hid HN_.out
       clear HN_
       obtain ⟨Au, cu, rfl, -⟩ := HG_.out.ow.form
       have hb9 : Below w7.heap.size w7 Wn3 := by rw [HG.out]; exact BB.out
       have y4 := BelS.c hb9 QE4.out
       obtain ⟨Wf, hWf⟩ : ∃ Wf, Wn3.alloc (.cells #[.int .i64 xt] 3) = Wf := ⟨_, rfl⟩
       have bf : Below Wn3.heap.size Wn3 Wf := by rw [← hWf]; exact (Below.refl _ _).alloc (Nat.le_refl _) _
       have HGf := Lib.hid (HG_.out.below bf)
       obtain ⟨i1, hz1, hk0', hk1', hk2'⟩ := info_parts infoInt
       obtain ⟨v2, Wg, r2, o2', g2, d2⟩ := app1 (x := xt) EI Try.underlying25 hz1 hk0' hk1' hk2' rfl HGf.out.ow (q := Wn3.heap.size) (fun i u hi => by
        match i, hi with
        | 0, hi => cases hi; rw [← hWf]; simp [go_sem]
        | i + 1, hi => simp [encI] at hi) (by have := HGf.out.gl.gl; omega) (by have := HMM.out; omega) (by decide)
       have HW_ := HGf.out.want g2 o2' d2
       obtain ⟨A9, c9, rfl, -⟩ := o2'.form
       obtain ⟨n9, hn9⟩ : ∃ n9, (lt ++ [xt]).length = n9 := ⟨_, rfl⟩
       rw [hn9] at r2 HW_
       have BG : Hid (Below g w7 Wg) := Lib.hid (by
        have h1 : Below g w7 Wf := BB.out.trans (bf.mono (by have := BB.out.size; have := HG.out; omega))
        exact h1.trans (g2.below (fun b hb => by have := (HGf.out.ow.lt b (by simpa using hb)).1; omega) (by have := h1.size; have := HG.out; omega)))
       have R2 := Lib.hid r2
       have HWW := Lib.hid HW_
       clear bf g2 d2 o2' HW_ r2 hn9 hb9 HGf
       go_wp2_with (at_builtin; refine Lib.wpList_append_run _ rfl _ _ _ _ rfl _ _ rfl rfl _ Wg R2.out ?_)
       go_roundw
       case rel => exact ⟨j + 1, _, _, _, by go_num, by omega, BG.out, by rw [← Nat.add_assoc, K1.out, K2.out, K3.out, K4.out]; exact HWW.out⟩
       case measure => show os.length - ((j : Int) + 1).toNat < os.length - (j : Int).toNat; omega
      ·have hj0 : (os.length : Int) ≤ (j : Int) := by omega
       obtain rfl : j = os.length := by omega
       go_wp2_with fail
       go_roundw
       case rel => exact ⟨k + 1, _, _, _, by go_num, by omega, BB.out, by rw [HPS.out]; exact HG_.out⟩
       case measure => show R.length - ((k : Int) + 1).toNat < R.length - (k : Int).toNat; omega
    ·have hk0 : (R.length : Int) ≤ (k : Int) := by omega
     obtain rfl : k = R.length := by omega
     have ht : pre R R.length = total R := rfl
     rw [ht] at HG_
     have htl := less_total HL.out
     obtain ⟨t, hte⟩ : ∃ t, lessWa ws c0 s = t := ⟨_, rfl⟩
     have hrv : rv = t.river := by rw [← HRV.out, ← hte, HCW.out.2.r]; rfl
     rw [kpL_all ws c0 s.boards (Nat.le_of_eq htl.symm), kpL_all ws c0 s.leaks (Nat.le_of_eq htl.symm), kpL_all ws c0 s.losses (Nat.le_of_eq htl.symm), kpL_all ws c0 TT (Nat.le_of_eq htl.symm)] at HG_
     have hfl := less_flow HL.out HW.out HCW.out.2
     rw [HTT.out, hte] at hfl
     have hwa := less_wa HL.out HW.out HCW.out.2
     rw [hte] at hwa
     have e1 : (keptI ws c0 (total ws)).map (fun j => s.boards.getD j 0) = t.boards := by rw [← hte]; rfl
     have e2 : (keptI ws c0 (total ws)).map (fun j => s.leaks.getD j 0) = t.leaks := by rw [← hte]; rfl
     have e3 : (keptI ws c0 (total ws)).map (fun j => s.losses.getD j 0) = t.losses := by rw [← hte]; rfl
     rw [hrv, e1, e2, e3, ← hfl] at HG_
     have HWA := Lib.hid hwa
     have HFL := Lib.hid (show (flowF R t).thr.length ≤ 90 by have h1 := thr_len R t _ (Nat.le_refl _); have h2 := HRO.out.tot; show (flowTo R t (total R)).thr.length ≤ 90; omega)
     have fit : ∀ l : List Int, l.length ≤ 100 → Fits l.length := fun l hl => by show l.length ≤ 1000000000000000; omega
     have L0 : t.river.length ≤ 100 := by rw [hwa.r]; have := headsL_len HRO.out; simp [headsL] at this; omega
     have L1 : t.boards.length ≤ 100 := by rw [hwa.b]; have := HRO.out.tot; omega
     have L2 : t.leaks.length ≤ 100 := by rw [hwa.k]; have := HRO.out.tot; omega
     have L3 : t.losses.length ≤ 100 := by rw [hwa.l]; have := HRO.out.tot; omega
     have W1 : Hid (RWa wr.heap.size (.agg #[u0, u1, u2, u3]) t wr) := Lib.hid ⟨u0, u1, u2, u3, rfl, (HG_.out.gl.o 0 _ _ rfl rfl).rr EI (fit _ L0), (HG_.out.gl.o 1 _ _ rfl rfl).rr EI (fit _ L1), (HG_.out.gl.o 2 _ _ rfl rfl).rr EI (fit _ L2), (HG_.out.gl.o 3 _ _ rfl rfl).rr EI (fit _ L3)⟩
     have y0 := HG_.out.gl.c 0 _ rfl
     have y1 := HG_.out.gl.c 1 _ rfl
     have y2 := HG_.out.gl.c 2 _ rfl
     have y3 := HG_.out.gl.c 3 _ rfl
     obtain ⟨a0, m0, d0, f0⟩ := HG_.out.gl.o 0 _ _ rfl rfl |>.form
     obtain ⟨a1, m1, d1, f1⟩ := HG_.out.gl.o 1 _ _ rfl rfl |>.form
     obtain ⟨a2, m2, d2, f2⟩ := HG_.out.gl.o 2 _ _ rfl rfl |>.form
     obtain ⟨a3, m3, d3, f3⟩ := HG_.out.gl.o 3 _ _ rfl rfl |>.form
     subst d0 d1 d2 d3
     replace S := Lib.hid (S.out.below hb7)
     replace HRK := Lib.hid (HRK.out.up hb7.size hb7)
     have OWW := Lib.hid HG_.out.ow
     clear hte hrv htl hfl hwa e1 e2 e3 L0 L1 L2 L3 fit ht HG_ f0 f1 f2 f3 hb7
     go_wp2_with fail
     refine (Flow_any _ _ R t 0 _ HRK.out (by have := HRO.out.tot; omega) W1.out (.inr (.inr ⟨HRO.out.check, HWA.out, rfl⟩))).mono ?_
     rintro e wx ⟨un, rfl, on, bx⟩
     rw [okL_zero] at on
     replace S := Lib.hid (S.out.below bx)
     replace OWW := Lib.hid (OWW.out.below bx)
     have ON := Lib.hid on
     clear bx on y0 y1 y2 y3 x8
     go_wp2_with fail
     refine (sanity_any _).mono ?_
     rintro e wz ⟨rfl, bz⟩
     replace S := Lib.hid (S.out.below bz)
     replace ON := Lib.hid (ON.out.below bz)
     replace OWW := Lib.hid (OWW.out.below bz)
     clear bz
     go_wp2_with fail
     refine (sameInts_any _ _ (flowF R t).thr wz (ON.out.rr EI (by have := HFL.out; show (flowF R t).thr.length ≤ 1000000000000000; omega)) (OWW.out.rr EI (by have := HFL.out; show (flowF R t).thr.length ≤ 1000000000000000; omega)) (by have := HFL.out; omega)).mono ?_
     rintro e wy ⟨rfl, by_⟩
     replace S := Lib.hid (S.out.below by_)
     clear by_
     go_wp2_with fail
     go_ret
     exact ⟨by trivial, S.out.bel⟩
end Go.Proofs.Ytkoacclbempmdaa
