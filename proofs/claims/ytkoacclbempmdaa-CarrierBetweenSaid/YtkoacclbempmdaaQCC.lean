/- The law CarrierBetween, by its walk. -/
import Derived.Test.YtkoacclbempmdaaQCB
import Derived.Test.YtkoacclbempmdaaQCA
import Derived.Test.YtkoacclbempmdaaGZL
namespace Go.Proofs.Ytkoacclbempmdaa
open Go.RowKit
attribute [local go_sem] Oper.semAt_some

/-- The cells of a block. -/
structure BlkN (b : Nat) (l : List Value) (W : World) : Prop where
 c : ∀ (k : Nat) (v : Value), l[k]? = some v → W.cell? ⟨b, k, none⟩ = some v
 lt : b < W.heap.size
theorem BlkN.below {b : Nat} {l : List Value} {W W' : World} (h : BlkN b l W) (hb : Below W.heap.size W W') : BlkN b l W' := ⟨fun k v hk => (hb.cell (p := ⟨b, k, none⟩) h.lt).trans (h.c k v hk), Nat.lt_of_lt_of_le h.lt hb.size⟩
theorem BlkN.new (W : World) (l : List Value) (t : TypeId) : BlkN W.heap.size l (W.alloc (.cells l.toArray t)) := by
 refine ⟨fun k v hk => ?_, by simp⟩
 have hb := World.alloc_heap_new W (.cells l.toArray t)
 rw [cell_of_row _ _ k _ _ _ hb]
 simpa using hk
theorem BlkN.low {b B : Nat} {l : List Value} {W W' : World} (h : BlkN b l W) (hb : Below B W W') (hB : b < B) (hs : W.heap.size ≤ W'.heap.size) : BlkN b l W' := ⟨fun k v hk => (hb.cell (p := ⟨b, k, none⟩) hB).trans (h.c k v hk), Nat.lt_of_lt_of_le h.lt hs⟩
theorem WCA.siz {w W : World} {x0 x1 x2 x3 x4 x5 x6 : Value} (h : WCA w x0 x1 x2 x3 x4 x5 x6 W) : w.heap.size + 3 ≤ W.heap.size := World.block_lt_of_cell? _ _ h.b0
theorem WCA.low {w W W' : World} {x0 x1 x2 x3 x4 x5 x6 : Value} {B : Nat} (h : WCA w x0 x1 x2 x3 x4 x5 x6 W) (hb : Below B W W') (hB : w.heap.size + 3 ≤ B) : WCA w x0 x1 x2 x3 x4 x5 x6 W' :=
 ⟨(hb.cell (p := ⟨w.heap.size, 0, none⟩) (by show w.heap.size < _; omega)).trans h.v0, (hb.cell (p := ⟨w.heap.size + 1, 0, none⟩) (by show w.heap.size + 1 < _; omega)).trans h.a0, (hb.cell (p := ⟨w.heap.size + 1, 1, none⟩) (by show w.heap.size + 1 < _; omega)).trans h.a1,
  (hb.cell (p := ⟨w.heap.size + 1 + 1, 0, none⟩) (by show w.heap.size + 1 + 1 < _; omega)).trans h.b0, (hb.cell (p := ⟨w.heap.size + 1 + 1, 1, none⟩) (by show w.heap.size + 1 + 1 < _; omega)).trans h.b1, (hb.cell (p := ⟨w.heap.size + 1 + 1, 2, none⟩) (by show w.heap.size + 1 + 1 < _; omega)).trans h.b2, (hb.cell (p := ⟨w.heap.size + 1 + 1, 3, none⟩) (by show w.heap.size + 1 + 1 < _; omega)).trans h.b3, h.bel.trans (hb.mono (by omega))⟩
/-- Water of one's own, opened. -/
theorem OW.slices {base : Nat} {a b c d : Value} {x : Wa} {W : World} (h : OW base (.agg #[a, b, c, d]) x W) : ∃ A1 c1 A2 c2 A3 c3 A4 c4, a = .slice A1 x.river.length c1 ∧ b = .slice A2 x.boards.length c2 ∧ c = .slice A3 x.leaks.length c3 ∧ d = .slice A4 x.losses.length c4 := by
 obtain ⟨A1, c1, A2, c2, A3, c3, A4, c4, e⟩ := h.form
 simp only [Value.agg.injEq, Array.mk.injEq, List.cons.injEq, and_true] at e
 exact ⟨A1, c1, A2, c2, A3, c3, A4, c4, e⟩
/-- Spans within others. -/
def SubL (a l : List (Int × Int)) : Prop := ∀ (i : Nat) (x y : Int × Int), a[i]? = some x → l[i]? = some y → y.1 ≤ x.1 ∧ x.1 ≤ x.2 ∧ x.2 ≤ y.2
theorem SubL.snoc {a l : List (Int × Int)} {x y : Int × Int} (h : SubL a l) (hy : l[a.length]? = some y) (h1 : y.1 ≤ x.1 ∧ x.1 ≤ x.2 ∧ x.2 ≤ y.2) : SubL (a ++ [x]) l := fun i u v hu hv => by
 by_cases e : i < a.length
 ·rw [List.getElem?_append_left e] at hu
  exact h i u v hu hv
 ·have := (List.getElem?_eq_some_iff.1 hu).1
  rw [List.length_append, List.length_singleton] at this
  obtain rfl : i = a.length := by omega
  rw [List.getElem?_append_right (Nat.le_refl _)] at hu
  simp at hu
  subst hu
  rw [hy] at hv
  cases hv
  exact h1

set_option maxHeartbeats 16000000 in
set_option maxRecDepth 1000000 in
theorem between_law (A : Option Addr) (c : Nat) (cv wv bv : Value) (ws : Wk) (s : Ca) (t : Wa) (us : List Int) (id : Int) (w : World) (h : RK w.heap.size (.slice A ws.length c) ws w) (hs : RCa w.heap.size cv s w) (ht : RWa w.heap.size wv t w) (hu : RU w.heap.size bv us w) (hid : (Lit.int .i64 id).wf = true) :
  Calls Try.prog 4 #[.agg #[.slice A ws.length c], cv, wv, .int .i64 id, bv] w fun e w' => e = .returned (.bool true) ∧ Below w.heap.size w w' := by
 obtain ⟨A1, c1, A2, c2, rfl⟩ := hs.form
 obtain ⟨B1, d1, B2, d2, B3, d3, B4, d4, rfl⟩ := ht.form
 obtain ⟨AU, cu_, rfl⟩ : ∃ AU cu_, bv = .slice AU us.length cu_ := by obtain ⟨A, c, e, -⟩ := hu; exact ⟨A, c, e⟩
 have H := Lib.hid h
 have HS := Lib.hid hs
 have HU := Lib.hid ht
 have HB := Lib.hid hu
 have HI := Lib.hid hid
 have S := Lib.hid (WCA.new w (.slice A ws.length c) (.slice A1 s.river.length c1) (.slice A2 s.boards.length c2) (.slice B1 t.river.length d1) (.slice B2 t.boards.length d2) (.slice B3 t.leaks.length d3) (.slice B4 t.losses.length d4))
 clear h hs ht hu hid
 go_enter Try.func4, Try.ntmps4
 have xx0 := S.out.v0
 go_wp2_with fail
 refine (few_any A ws.length c ws _ (H.out.up S.out.bel.size S.out.bel)).mono ?_
 rintro e wc1 ⟨b, rfl, hfew, bb⟩
 replace S := Lib.hid (S.out.below bb)
 clear bb xx0
 cases b
 ·clear hfew
  go_wp2_with fail
  refine (sanity_any _).mono ?_
  rintro e wz ⟨rfl, bz⟩
  have SZ := Lib.hid (S.out.below bz)
  clear bz
  go_wp2_with fail
  go_ret
  exact ⟨rfl, SZ.out.bel⟩
 have HT : Hid (total ws ≤ 90 ∧ ws.length ≤ 30) := Lib.hid (by have := hfew (by trivial); have h1 := this.1; have h2 := this.2.1; omega)
 clear hfew
 have xx0 := S.out.b0
 have xx1 := S.out.b1
 have xx2 := S.out.b2
 have xx3 := S.out.b3
 go_wp2_with fail
 refine (wet_any _ t _ (HU.out.up S.out.bel.size S.out.bel)).mono ?_
 rintro e wc2 ⟨b, rfl, -, bb⟩
 replace S := Lib.hid (S.out.below bb)
 clear bb xx0 xx1 xx2 xx3
 cases b
 ·skip
  go_wp2_with fail
  refine (sanity_any _).mono ?_
  rintro e wz ⟨rfl, bz⟩
  have SZ := Lib.hid (S.out.below bz)
  clear bz
  go_wp2_with fail
  go_ret
  exact ⟨rfl, SZ.out.bel⟩
 have xx0 := S.out.a0
 have xx1 := S.out.a1
 go_wp2_with fail
 refine (casedL_any _ s _ (HS.out.up S.out.bel.size S.out.bel)).mono ?_
 rintro e wc3 ⟨b, rfl, -, bb⟩
 replace S := Lib.hid (S.out.below bb)
 clear bb xx0 xx1
 cases b
 ·skip
  go_wp2_with fail
  refine (sanity_any _).mono ?_
  rintro e wz ⟨rfl, bz⟩
  have SZ := Lib.hid (S.out.below bz)
  clear bz
  go_wp2_with fail
  go_ret
  exact ⟨rfl, SZ.out.bel⟩
 obtain ⟨i, d, hd⟩ := CasAt.exists_ ws s id
 have HD := Lib.hid hd
 obtain ⟨X, hX⟩ : ∃ X, okWa d (exW ws s (endE ws id) 1) = X := ⟨_, rfl⟩
 obtain ⟨Y, hY⟩ : ∃ X, okWa d (exW ws s (endE ws id) (-1)) = X := ⟨_, rfl⟩
 obtain ⟨l1, hl1⟩ : ∃ l, okN d (flE ws s id i.toNat 1) = l := ⟨_, rfl⟩
 obtain ⟨l2, hl2⟩ : ∃ l, okN d (flE ws s id i.toNat (-1)) = l := ⟨_, rfl⟩
 have HT1 : Hid (total ws ≤ 100000 ∧ ws.length ≤ 100000) := Lib.hid (by have := HT.out; omega)
 have EG : Hid (∀ (a : Ca) (i d : Int), CasAt ws a id i d → ∀ (av : Value) W, Below w.heap.size w W → RCa W.heap.size av a W → Calls Try.prog 25 #[.agg #[.slice A ws.length c], av, .int .i64 id] W fun e w' => ∃ P1 k1 P2 k2 P3 k3 P4 k4 Q1 m1 Q2 m2 Q3 m3 Q4 m4, e = .returned (.tuple #[.agg #[.int .i64 (okN d (flE ws a id i.toNat 1)), .int .i64 (okN d (flE ws a id i.toNat (-1))), .slice P1 (okWa d (exW ws a (endE ws id) 1)).river.length k1, .slice P2 (okWa d (exW ws a (endE ws id) 1)).boards.length k2, .slice P3 (okWa d (exW ws a (endE ws id) 1)).leaks.length k3, .slice P4 (okWa d (exW ws a (endE ws id) 1)).losses.length k4, .slice Q1 (okWa d (exW ws a (endE ws id) (-1))).river.length m1, .slice Q2 (okWa d (exW ws a (endE ws id) (-1))).boards.length m2, .slice Q3 (okWa d (exW ws a (endE ws id) (-1))).leaks.length m3, .slice Q4 (okWa d (exW ws a (endE ws id) (-1))).losses.length m4], .int .i64 d]) ∧ OW W.heap.size (.agg #[.slice P1 (okWa d (exW ws a (endE ws id) 1)).river.length k1, .slice P2 (okWa d (exW ws a (endE ws id) 1)).boards.length k2, .slice P3 (okWa d (exW ws a (endE ws id) 1)).leaks.length k3, .slice P4 (okWa d (exW ws a (endE ws id) 1)).losses.length k4]) (okWa d (exW ws a (endE ws id) 1)) w' ∧ OW W.heap.size (.agg #[.slice Q1 (okWa d (exW ws a (endE ws id) (-1))).river.length m1, .slice Q2 (okWa d (exW ws a (endE ws id) (-1))).boards.length m2, .slice Q3 (okWa d (exW ws a (endE ws id) (-1))).leaks.length m3, .slice Q4 (okWa d (exW ws a (endE ws id) (-1))).losses.length m4]) (okWa d (exW ws a (endE ws id) (-1))) w' ∧ Below W.heap.size W w') := Lib.hid fun a i d hd av W hb ha => by
  refine (Ends_any _ _ ws a id i d W (H.out.up hb.size hb) HT1.out.1 ha hd HI.out).mono ?_
  rintro e w' ⟨v, rfl, ⟨a1, a2, a3, a4, b1, b2, b3, b4, rfl, o1, o2⟩, bb⟩
  obtain ⟨P1, k1, P2, k2, P3, k3, P4, k4, rfl, rfl, rfl, rfl⟩ := o1.slices
  obtain ⟨Q1, m1, Q2, m2, Q3, m3, Q4, m4, rfl, rfl, rfl, rfl⟩ := o2.slices
  exact ⟨P1, k1, P2, k2, P3, k3, P4, k4, Q1, m1, Q2, m2, Q3, m3, Q4, m4, rfl, o1, o2, bb⟩
 have EA_ := Lib.hid (EG.out s i d hd)
 rw [hX, hY, hl1, hl2] at EA_
 have HXY : Hid (okWa d (exW ws s (endE ws id) 1) = X ∧ okWa d (exW ws s (endE ws id) (-1)) = Y ∧ okN d (flE ws s id i.toNat 1) = l1 ∧ okN d (flE ws s id i.toNat (-1)) = l2) := Lib.hid ⟨hX, hY, hl1, hl2⟩
 clear hd hX hY hl1 hl2
 have xx0 := S.out.v0
 have xx1 := S.out.a0
 have xx2 := S.out.a1
 go_wp2_with fail
 refine (EA_.out _ _ S.out.bel (HS.out.up S.out.bel.size S.out.bel)).mono ?_
 rintro e wc4 ⟨P1, k1, P2, k2, P3, k3, P4, k4, Q1, m1, Q2, m2, Q3, m3, Q4, m4, rfl, ox, oy, bb⟩
 replace S := Lib.hid (S.out.below bb)
 have OX := Lib.hid ox
 have OY := Lib.hid oy
 clear bb xx0 xx1 xx2 ox oy
 obtain ⟨wc5, hwc5⟩ : ∃ W, wc4.alloc (.cells #[.int .i64 l1, .int .i64 l2, .slice P1 X.river.length k1, .slice P2 X.boards.length k2, .slice P3 X.leaks.length k3, .slice P4 X.losses.length k4, .slice Q1 Y.river.length m1, .slice Q2 Y.boards.length m2, .slice Q3 Y.leaks.length m3, .slice Q4 Y.losses.length m4] 50) = W := ⟨_, rfl⟩
 have bb : Below wc4.heap.size wc4 wc5 := by rw [← hwc5]; exact (Below.refl _ _).alloc (Nat.le_refl _) _
 replace S := Lib.hid (S.out.below bb)
 replace OX := Lib.hid (OX.out.below bb)
 replace OY := Lib.hid (OY.out.below bb)
 have BA : Hid (BlkN wc4.heap.size [.int .i64 l1, .int .i64 l2, .slice P1 X.river.length k1, .slice P2 X.boards.length k2, .slice P3 X.leaks.length k3, .slice P4 X.losses.length k4, .slice Q1 Y.river.length m1, .slice Q2 Y.boards.length m2, .slice Q3 Y.leaks.length m3, .slice Q4 Y.losses.length m4] wc5) := Lib.hid (by rw [← hwc5]; exact BlkN.new _ _ _)
 have Hwc5 := Lib.hid hwc5
 clear bb hwc5
 by_cases hd0 : d = 0
 ·subst hd0
  obtain ⟨hw, hc, n, p, rfl, hf, hp⟩ := HD.out.ok
  have hpid := fst_id hf hp
  have HW := Lib.hid hw
  have HC := Lib.hid hc
  have HP := Lib.hid hp
  have HF := Lib.hid hf
  have HPID := Lib.hid hpid
  have HN : Hid (n < total ws ∧ total ws ≤ 60) := Lib.hid ⟨lt_total hp, hw.tot⟩
  have HE : Hid (exW ws s (endE ws id) 1 = X ∧ exW ws s (endE ws id) (-1) = Y ∧ flE ws s id n 1 = l1 ∧ flE ws s id n (-1) = l2) := Lib.hid (by have := HXY.out; exact this)
  have hb0 := ends_b hw hc hp
  rw [hpid, HE.out.2.2.1, HE.out.2.2.2] at hb0
  obtain ⟨hb1, hb2⟩ := hb0
  have HB12 := Lib.hid (And.intro hb1 hb2)
  have HK0 : Hid (KnownIs ws id n 0 ∧ CasIs ws s 0) := Lib.hid (by
   rcases HD.out with ⟨_, h, _⟩ | ⟨h1, h2⟩
   ·exact absurd rfl h
   ·exact ⟨h2, h1⟩)
  obtain ⟨Z, hZ⟩ : ∃ Z, (allP ws).map (spF ws s) = Z := ⟨_, rfl⟩
  have HZ : Hid (Z.length = total ws ∧ Z[n]? = some (l1, l2)) := Lib.hid (by
   rw [← hZ, List.length_map, allP_len]
   refine ⟨rfl, ?_⟩
   rw [List.getElem?_map, hp, Option.map_some]
   unfold spF
   rw [hpid, (allP_inv hp).1, HE.out.2.2.1, HE.out.2.2.2])
  have EC_ : Hid (∀ W, Below w.heap.size w W → Calls Try.prog 27 #[.agg #[.slice A ws.length c], .agg #[.slice A1 s.river.length c1, .slice A2 s.boards.length c2]] W fun e w' => ∃ P k, e = .returned (.tuple #[.slice P Z.length k, .int .i64 0]) ∧ OwnG enc2 2 40 W.heap.size (.slice P Z.length k) Z w' ∧ Below W.heap.size W w') := Lib.hid fun W hb => by
   refine (Spans_any _ _ ws s 0 W (H.out.up hb.size hb) HT1.out.1 (HS.out.up hb.size hb) HK0.out.2).mono ?_
   rintro e w' ⟨v, rfl, o1, bb⟩
   rw [okS_zero, hZ] at o1
   obtain ⟨P, k, rfl, -⟩ := o1.form
   exact ⟨P, k, rfl, o1, bb⟩
  have HCK : Hid (CkE ws s id n 0 l1 l2 X Y 0) := Lib.hid ⟨HD.out, .inr (.inl ⟨rfl, by have h9 := ends_accepted hw hc id n; rw [HE.out.1, HE.out.2.1, HE.out.2.2.1, HE.out.2.2.2] at h9; exact h9, rfl⟩)⟩
  clear hw hc hf hp hpid hZ
  have xx0 := S.out.v0
  go_upto_region 6 with fail
  rw [Hwc5.out]
  go_wp2_with fail
  refine (place_any A c ws id n _ (H.out.up S.out.bel.size S.out.bel) HT1.out.1 HT1.out.2 HF.out).mono ?_
  rintro e wc6 ⟨rfl, bb⟩
  replace S := Lib.hid (S.out.below bb)
  replace OX := Lib.hid (OX.out.below bb)
  replace OY := Lib.hid (OY.out.below bb)
  replace BA := Lib.hid (BA.out.below bb)
  clear bb xx0
  have xx0 := S.out.v0
  have xx1 := S.out.a0
  have xx2 := S.out.a1
  go_wp2_with fail
  refine (EC_.out _ S.out.bel).mono ?_
  rintro e wc7 ⟨PS, kS, rfl, oz, bb⟩
  replace S := Lib.hid (S.out.below bb)
  replace OX := Lib.hid (OX.out.below bb)
  replace OY := Lib.hid (OY.out.below bb)
  replace BA := Lib.hid (BA.out.below bb)
  have OZ := Lib.hid oz
  clear bb xx0 xx1 xx2 oz
  have RZ : Hid (RR enc2 wc7.heap.size (.slice PS Z.length kS) Z wc7) := Lib.hid (OZ.out.rr E2 (by have := HZ.out.1; have := HN.out; show Z.length ≤ 1000000000000000; omega))
  obtain ⟨bz, oz, rfl, hbz, zz0, zz1⟩ := RZ.out.span HZ.out.2
  simp only at zz0 zz1
  obtain ⟨nz, hnz⟩ : ∃ nz, Z.length = nz := ⟨_, rfl⟩
  have HNZ := Lib.hid hnz
  rw [hnz] at RZ ⊢
  have hn1 : (n : Int) < (nz : Int) := by have := HZ.out.1; have := HN.out; omega
  have hn2 : (0 : Int) ≤ (n : Int) := by omega
  have hn3 : ¬ (n : Int) < 0 := by omega
  have hn4 : ¬ (nz : Int) ≤ (n : Int) := by omega
  have hl3 : ¬ l1 < 0 := by omega
  have hl4 : ¬ l2 < l1 := by omega
  have hn3b : decide ((n : Int) < 0) = false := decide_eq_false hn3
  have hn4b : decide ((nz : Int) ≤ (n : Int)) = false := decide_eq_false hn4
  have hn4c : decide (nz ≤ n) = false := decide_eq_false (by omega)
  have hn4d : decide ((n : Int) ≥ (nz : Int)) = false := decide_eq_false hn4
  have hl3b : decide (l1 < 0) = false := decide_eq_false hl3
  have hl4b : decide (l2 < l1) = false := decide_eq_false hl4
  clear hnz hbz
  have x0 := S.out.v0
  have x1 := S.out.a0
  have x2 := S.out.a1
  have ba0 := BA.out.c 0 _ rfl
  have ba1 := BA.out.c 1 _ rfl
  have ba2 := BA.out.c 2 _ rfl
  have ba3 := BA.out.c 3 _ rfl
  have ba4 := BA.out.c 4 _ rfl
  have ba5 := BA.out.c 5 _ rfl
  have ba6 := BA.out.c 6 _ rfl
  have ba7 := BA.out.c 7 _ rfl
  have ba8 := BA.out.c 8 _ rfl
  have ba9 := BA.out.c 9 _ rfl
  go_upto_region 8 with fail
  refine wp_region_held_drew (S := BelS wc7) (by kernel_rfl) (BelS.drew0 _) (fun J0 => ?_)
  have KK := Lib.hid fun (w_ : World) (hSw : BelS _ w_) => And.intro (hSw.c x0) (And.intro (hSw.c x1) (And.intro (hSw.c x2) (And.intro (hSw.c ba0) (And.intro (hSw.c ba1) (And.intro (hSw.c ba2) (And.intro (hSw.c ba3) (And.intro (hSw.c ba4) (And.intro (hSw.c ba5) (And.intro (hSw.c ba6) (And.intro (hSw.c ba7) (And.intro (hSw.c ba8) (And.intro (hSw.c ba9) (And.intro (hSw.c zz0) (hSw.c zz1))))))))))))))
  refine tw 0 62 J0 ?_ (hy := by intro w' hSw; have q := KK.out w' hSw; go_simp; try with_reducible rfl)
  try simp only [aS]
  refine tw 1 63 J0 ?_ (hy := by intro w' hSw; have q := KK.out w' hSw; go_simp; try with_reducible rfl)
  try simp only [aS]
  refine tw 2 64 J0 ?_ (hy := by intro w' hSw; have q := KK.out w' hSw; go_simp; try with_reducible rfl)
  try simp only [aS]
  refine tw 3 65 J0 ?_ (hy := by intro w' hSw; have q := KK.out w' hSw; go_simp; try with_reducible rfl)
  try simp only [aS]
  refine tw 4 66 J0 ?_ (hy := by intro w' hSw; have q := KK.out w' hSw; go_simp; try with_reducible rfl)
  try simp only [aS]
  refine tw 5 67 J0 ?_ (hy := by intro w' hSw; have q := KK.out w' hSw; go_simp; try with_reducible rfl)
  try simp only [aS]
  refine tw 6 68 J0 ?_ (hy := by intro w' hSw; have q := KK.out w' hSw; go_simp; try with_reducible rfl)
  try simp only [aS]
  refine tw 7 69 J0 ?_ (hy := by intro w' hSw; have q := KK.out w' hSw; go_simp; try with_reducible rfl)
  try simp only [aS]
  refine tw 8 70 J0 ?_ (hy := by intro w' hSw; have q := KK.out w' hSw; go_simp; try with_reducible rfl)
  try simp only [aS]
  refine tw 9 71 J0 ?_ (hy := by intro w' hSw; have q := KK.out w' hSw; go_simp; try with_reducible rfl)
  try simp only [aS]
  refine tw 10 72 J0 ?_ (hy := by intro w' hSw; have q := KK.out w' hSw; go_simp; try with_reducible rfl)
  try simp only [aS]
  refine tw 11 73 J0 ?_ (hy := by intro w' hSw; have q := KK.out w' hSw; go_simp; try with_reducible rfl)
  try simp only [aS]
  refine tw 12 74 J0 ?_ (hy := by intro w' hSw; have q := KK.out w' hSw; go_simp; try with_reducible rfl)
  try simp only [aS]
  refine tw 13 75 J0 ?_ (hy := by intro w' hSw; have q := KK.out w' hSw; go_simp; try with_reducible rfl)
  try simp only [aS]
  refine tw 14 76 J0 ?_ (hy := by intro w' hSw; have q := KK.out w' hSw; go_simp; try with_reducible rfl)
  try simp only [aS]
  refine tw 15 77 J0 ?_ (hy := by intro w' hSw; have q := KK.out w' hSw; go_simp; try with_reducible rfl)
  try simp only [aS]
  refine tw 16 78 J0 ?_ (hy := by intro w' hSw; have q := KK.out w' hSw; go_simp; try with_reducible rfl)
  try simp only [aS]
  refine tw 17 79 J0 ?_ (hy := by intro w' hSw; have q := KK.out w' hSw; go_simp; try with_reducible rfl)
  try simp only [aS]
  refine tw 18 80 J0 ?_ (hy := by intro w' hSw; have q := KK.out w' hSw; go_simp; try with_reducible rfl)
  try simp only [aS]
  refine tw 19 81 J0 ?_ (hy := by intro w' hSw; have q := KK.out w' hSw; go_simp; try with_reducible rfl)
  try simp only [aS]
  refine tw 20 82 J0 ?_ (hy := by intro w' hSw; have q := KK.out w' hSw; go_simp; try with_reducible rfl)
  try simp only [aS]
  refine tw 21 83 J0 ?_ (hy := by intro w' hSw; have q := KK.out w' hSw; go_simp; try with_reducible rfl)
  try simp only [aS]
  refine tw 22 84 J0 ?_ (hy := by intro w' hSw; have q := KK.out w' hSw; go_simp; try with_reducible rfl)
  try simp only [aS]
  refine tw 23 85 J0 ?_ (hy := by intro w' hSw; have q := KK.out w' hSw; go_simp; try with_reducible rfl)
  try simp only [aS]
  refine tw 24 86 J0 ?_ (hy := by intro w' hSw; have q := KK.out w' hSw; go_simp; try with_reducible rfl)
  try simp only [aS]
  refine tw 25 87 J0 ?_ (hy := by intro w' hSw; have q := KK.out w' hSw; go_simp; try with_reducible rfl)
  try simp only [aS]
  refine wpAnyH_ready (rs := [26]) (by kernel_rfl) (by simp) ?_
  refine AllReadyH.cons rfl (fun K hK => ?_) AllReadyH.nil
  go_simp
  refine (CheckEnds_any _ _ _ _ _ _ _ _ _ _ ws s X Y id n 0 l1 l2 0 _ (H.out.up (S.out.bel.trans ((BelS.b J0).mono S.out.bel.size)).size (S.out.bel.trans ((BelS.b J0).mono S.out.bel.size))) HT1.out.1 (HS.out.up (S.out.bel.trans ((BelS.b J0).mono S.out.bel.size)).size (S.out.bel.trans ((BelS.b J0).mono S.out.bel.size))) (OX.out.below (BelS.b J0)).rwa (OY.out.below (BelS.b J0)).rwa HI.out HCK.out).mono ?_
  rintro e wq1 ⟨rfl, hq1⟩
  have J1 := J0.below hq1
  clear hq1
  refine hK.out _ _ J1 (fun _ => ?_)
  clear hK K
  try simp only [aS]
  refine tw 27 89 J1 ?_ (hy := by intro w' hSw; have q := KK.out w' hSw; go_simp; try with_reducible rfl)
  try simp only [aS]
  refine tw 28 90 J1 ?_ (hy := by intro w' hSw; have q := KK.out w' hSw; go_simp; try with_reducible rfl)
  try simp only [aS]
  refine tw 29 91 J1 ?_ (hy := by intro w' hSw; have q := KK.out w' hSw; go_simp; try with_reducible rfl)
  try simp only [aS]
  refine tw 30 92 J1 ?_ (hy := by intro w' hSw; have q := KK.out w' hSw; go_simp; try with_reducible rfl)
  try simp only [aS]
  refine tw 31 93 J1 ?_ (hy := by intro w' hSw; have q := KK.out w' hSw; go_simp; try with_reducible rfl)
  try simp only [aS]
  refine tw 32 94 J1 ?_ (hy := by intro w' hSw; have q := KK.out w' hSw; go_simp; try with_reducible rfl)
  try simp only [aS]
  refine tw 33 95 J1 ?_ (hy := by intro w' hSw; have q := KK.out w' hSw; go_simp; try with_reducible rfl)
  try simp only [aS]
  refine tw 34 96 J1 ?_ (hy := by intro w' hSw; have q := KK.out w' hSw; go_simp; try with_reducible rfl)
  try simp only [aS]
  refine tw 35 97 J1 ?_ (hy := by intro w' hSw; have q := KK.out w' hSw; go_simp; try with_reducible rfl)
  try simp only [aS]
  refine tw 36 98 J1 ?_ (hy := by intro w' hSw; have q := KK.out w' hSw; go_simp; try with_reducible rfl)
  try simp only [aS]
  refine tw 37 99 J1 ?_ (hy := by intro w' hSw; have q := KK.out w' hSw; go_simp; try with_reducible rfl)
  try simp only [aS]
  refine tw 38 100 J1 ?_ (hy := by intro w' hSw; have q := KK.out w' hSw; go_simp; try with_reducible rfl)
  try simp only [aS]
  refine tw 39 101 J1 ?_ (hy := by intro w' hSw; have q := KK.out w' hSw; go_simp; try with_reducible rfl)
  try simp only [aS]
  refine tw 40 102 J1 ?_ (hy := by intro w' hSw; have q := KK.out w' hSw; go_simp; try with_reducible rfl)
  try simp only [aS]
  refine tw 41 103 J1 ?_ (hy := by intro w' hSw; have q := KK.out w' hSw; go_simp; try with_reducible rfl)
  try simp only [aS]
  refine tw 42 104 J1 ?_ (hy := by intro w' hSw; have q := KK.out w' hSw; go_simp; try with_reducible rfl)
  try simp only [aS]
  refine tw 43 105 J1 ?_ (hy := by intro w' hSw; have q := KK.out w' hSw; go_simp; try with_reducible rfl)
  try simp only [aS]
  refine wpAnyH_done (by kernel_rfl) ?_ _
  replace S := Lib.hid (S.out.below (BelS.b J1))
  replace BA := Lib.hid (BA.out.below (BelS.b J1))
  clear KK zz0 zz1 x0 x1 x2 ba0 ba1 ba2 ba3 ba4 ba5 ba6 ba7 ba8 ba9
  obtain ⟨wc8, hwq⟩ : ∃ W, wq1 = W := ⟨_, rfl⟩
  rw [hwq] at S BA ⊢
  clear hwq J0 J1 OZ RZ OX OY
  obtain ⟨fb, fd, hfit⟩ := FitR.exists_ ws s t
  have HFIT := Lib.hid hfit
  clear hfit
  have x0 := S.out.v0
  have x1 := S.out.a0
  have x2 := S.out.a1
  have x3 := S.out.b0
  have x4 := S.out.b1
  have x5 := S.out.b2
  have x6 := S.out.b3
  go_wp2_with fail
  refine (Fits_any _ _ _ ws s t fb fd _ (H.out.up S.out.bel.size S.out.bel) HT1.out.1 (HS.out.up S.out.bel.size S.out.bel) (HU.out.up S.out.bel.size S.out.bel) HFIT.out).mono ?_
  rintro e wc9 ⟨rfl, bb⟩
  replace S := Lib.hid (S.out.below bb)
  replace BA := Lib.hid (BA.out.below bb)
  clear bb x0 x1 x2 x3 x4 x5 x6
  go_upto_region 11 with fail
  go_cut [117] (fun v wx => v = .bool (decide (fd = 0) && fb) ∧ WCA w (.slice A ws.length c) (.slice A1 s.river.length c1) (.slice A2 s.boards.length c2) (.slice B1 t.river.length d1) (.slice B2 t.boards.length d2) (.slice B3 t.leaks.length d3) (.slice B4 t.losses.length d4) wx ∧ BlkN wc4.heap.size [.int .i64 l1, .int .i64 l2, .slice P1 X.river.length k1, .slice P2 X.boards.length k2, .slice P3 X.leaks.length k3, .slice P4 X.losses.length k4, .slice Q1 Y.river.length m1, .slice Q2 Y.boards.length m2, .slice Q3 Y.leaks.length m3, .slice Q4 Y.losses.length m4] wx)
  case first =>
   by_cases e0 : fd = 0
   ·subst e0
    cases fb with
    | true =>
     go_wp2_with fail
     go_meet
     exact ⟨rfl, S.out, BA.out⟩
    | false =>
     go_wp2_with fail
     go_meet
     exact ⟨rfl, S.out, BA.out⟩
   ·have e2 : (fd == 0) = false := by rw [beq_eq_false_iff_ne]; exact e0
    have e3 : decide (fd = 0) = false := decide_eq_false e0
    go_wp2_with fail
    go_meet
    exact ⟨by rw [e3]; rfl, S.out, BA.out⟩
  case rest =>
   as_aux_lemma =>
   obtain ⟨rfl, hS, hBA⟩ := hcut
   replace S := Lib.hid hS
   replace BA := Lib.hid hBA
   clear hS hBA
   obtain ⟨fq, hfq⟩ : ∃ q, (decide (fd = 0) && fb) = q := ⟨_, rfl⟩
   have HFQ := Lib.hid hfq
   rw [hfq]
   clear hfq
   go_upto_if 117 with fail
   go_cut [18, 19] (fun _ _ wx => WCA w (.slice A ws.length c) (.slice A1 s.river.length c1) (.slice A2 s.boards.length c2) (.slice B1 t.river.length d1) (.slice B2 t.boards.length d2) (.slice B3 t.leaks.length d3) (.slice B4 t.losses.length d4) wx ∧ BlkN wc4.heap.size [.int .i64 l1, .int .i64 l2, .slice P1 X.river.length k1, .slice P2 X.boards.length k2, .slice P3 X.leaks.length k3, .slice P4 X.losses.length k4, .slice Q1 Y.river.length m1, .slice Q2 Y.boards.length m2, .slice Q3 Y.leaks.length m3, .slice Q4 Y.losses.length m4] wx)
   case first =>
    cases fq
    rotate_left
    ·obtain ⟨rfl, rfl⟩ : fd = 0 ∧ fb = true := by have := HFQ.out; rw [Bool.and_eq_true, decide_eq_true_iff] at this; exact this
     have HWA : Hid (WaOk ws t ∧ InCa s t) := Lib.hid (by
      rcases HFIT.out with ⟨_, h, _⟩ | ⟨_, _, h, _⟩ | ⟨_, h1, _, h2⟩
      ·exact absurd rfl h
      ·cases h
      ·exact ⟨h1, InCa.of h2.symm⟩)
     have HBT := Lib.hid (between HW.out HC.out HWA.out.1 HWA.out.2 HP.out)
     have hto := HN.out
     obtain ⟨fx, hfx⟩ : ∃ f, (flowF ws t).thr[n]? = some f := ⟨_, List.getElem?_eq_getElem (by have := thr_len ws t (total ws) (Nat.le_refl _); show n < (flowTo ws t (total ws)).thr.length; omega)⟩
     have hbt := HBT.out
     rw [HPID.out, HE.out.2.2.1, HE.out.2.2.2, List.getD_eq_getElem?_getD, hfx] at hbt
     simp only [Option.getD_some] at hbt
     have hlt1 : ¬ fx < l1 := by omega
     have hlt2 : ¬ l2 < fx := by omega
     have HFX : Hid ((flowF ws t).thr.length = total ws ∧ (flowF ws t).thr[n]? = some fx) := Lib.hid ⟨thr_len ws t (total ws) (Nat.le_refl _), hfx⟩
     have hk0 : WatIs ws t 0 := .inr (.inr ⟨HK0.out.2.chk0, HWA.out.1, rfl⟩)
     have HWT := Lib.hid hk0
     clear hbt hfx hto hk0
     have x0 := S.out.v0
     have x3 := S.out.b0
     have x4 := S.out.b1
     have x5 := S.out.b2
     have x6 := S.out.b3
     go_wp2_with fail
     refine (Flow_any _ _ ws t 0 _ (H.out.up S.out.bel.size S.out.bel) (by have := HT1.out; omega) (HU.out.up S.out.bel.size S.out.bel) HWT.out).mono ?_
     rintro e wf ⟨u, rfl, hu, bb⟩
     replace S := Lib.hid (S.out.below bb)
     replace BA := Lib.hid (BA.out.below bb)
     rw [okL_zero] at hu
     have RF := Lib.hid (hu.rr EI (by rw [HFX.out.1]; have := HN.out; show total ws ≤ 1000000000000000; omega))
     obtain ⟨U, cf, rfl, -⟩ := hu.form
     rw [HFX.out.1] at RF ⊢
     obtain ⟨nt, hnt⟩ : ∃ nt, total ws = nt := ⟨_, rfl⟩
     have hn5 : (n : Int) < (nt : Int) := by have := HN.out; omega
     have hn6 : ¬ (nt : Int) ≤ (n : Int) := by omega
     have hn6b : decide ((nt : Int) ≤ (n : Int)) = false := decide_eq_false hn6
     have hn6c : decide (nt ≤ n) = false := decide_eq_false (by omega)
     have hlt1b : decide (fx < l1) = false := decide_eq_false (by omega)
     have hlt2b : decide (l2 < fx) = false := decide_eq_false (by omega)
     rw [hnt] at RF ⊢
     obtain ⟨bf, of_, rfl, -, qf⟩ := RF.out.int HFX.out.2
     have ba0 := BA.out.c 0 _ rfl
     have ba1 := BA.out.c 1 _ rfl
     clear bb hu x0 x3 x4 x5 x6 hnt
     go_upto_region 13 with fail
     go_quiet (fail)
     go_wp2_with fail
     go_meet
     exact ⟨S.out.below (below_drewN (Below.refl _ _) _), BA.out.below (below_drewN (Below.refl _ _) _)⟩
    ·go_wp2_with fail
     go_meet
     exact ⟨S.out, BA.out⟩
   case rest =>
    as_aux_lemma =>
    obtain ⟨hS, hBA⟩ := hcut
    replace S := Lib.hid hS
    replace BA := Lib.hid hBA
    clear hS hBA
    obtain ⟨W3, hW3⟩ : ∃ W, wc.alloc (.cells #[.slice none 0 0, .slice none 0 0] 46) = W := ⟨_, rfl⟩
    have bb : Below wc.heap.size wc W3 := by rw [← hW3]; exact (Below.refl _ _).alloc (Nat.le_refl _) _
    have HQ : Hid (w.heap.size + 3 ≤ wc.heap.size ∧ wc4.heap.size < wc.heap.size ∧ W3.heap.size = wc.heap.size + 1) := Lib.hid ⟨S.out.siz, BA.out.lt, by rw [← hW3]; simp⟩
    have S3 := Lib.hid (S.out.below bb)
    have BA3 := Lib.hid (BA.out.below bb)
    have G0 : Hid (GS wc.heap.size W3.heap.size [.slice none 0 0, .slice none 0 0] [[], []] W3) := Lib.hid (GS.nils (n := 2) (by have := HQ.out.2.2; omega) (by have := HQ.out.2.2; omega) (fun k hk => by
     rw [← hW3]
     match k, hk with
     | 0, _ => simp [go_sem]
     | 1, _ => simp [go_sem]) (fun k => by rw [← hW3]; simp [go_sem]))
    have LOW : Hid (∀ bs W, (∀ b ∈ bs, wc.heap.size ≤ b) → GrownL bs W3 W → WCA w (.slice A ws.length c) (.slice A1 s.river.length c1) (.slice A2 s.boards.length c2) (.slice B1 t.river.length d1) (.slice B2 t.boards.length d2) (.slice B3 t.leaks.length d3) (.slice B4 t.losses.length d4) W ∧ BlkN wc4.heap.size [.int .i64 l1, .int .i64 l2, .slice P1 X.river.length k1, .slice P2 X.boards.length k2, .slice P3 X.leaks.length k3, .slice P4 X.losses.length k4, .slice Q1 Y.river.length m1, .slice Q2 Y.boards.length m2, .slice Q3 Y.leaks.length m3, .slice Q4 Y.losses.length m4] W) := Lib.hid (fun bs W hbs hg => by
     have hb : Below wc.heap.size W3 W := hg.below hbs (by have := HQ.out.2.2; omega)
     exact ⟨S3.out.low hb HQ.out.1, BA3.out.low hb HQ.out.2.1 hg.size⟩)
    have h16 : s.river.length ≤ 16 := by have := HC.out.r; have := headsL_len HW.out; simp [headsL] at *; omega
    have h160 : (s.river.length : Int) ≤ 16 := by omega
    have hb60 : s.boards.length ≤ 60 := by rw [HC.out.b]; exact HN.out.2
    have hb600 : (s.boards.length : Int) ≤ 60 := by omega
    have CP := Lib.hid fun (j : Nat) (hj : j ≤ 1000) W (hb : Below w.heap.size w W) => pair_any _ us j W (HB.out.up hb.size hb) hj
    have HW3 := Lib.hid hW3
    clear bb hW3 S BA
    have x1 := S3.out.a0
    go_upto_region 16 with fail
    rw [HW3.out]
    go_wp2_with fail
    go_loopw [21] (fun i wr => ∃ (k : Nat) (u : Value) (a : List (Int × Int)), i = .int .i64 k ∧ k ≤ s.river.length ∧ a.length = k ∧ SubL a s.river ∧ GS wc.heap.size W3.heap.size [u, .slice none 0 0] [a, []] wr ∧ GrownL [wc.heap.size] W3 wr) (fun i _ => s.river.length - (intOf i).toNat)
    case atStart => exact ⟨0, _, [], rfl, by omega, rfl, fun i x y h => by simp at h, G0.out, GrownL.refl _ _⟩
    case round =>
     obtain ⟨k, u, a, rfl, hk, hal, hsub, hG, hgr⟩ := hrel
     have HG := Lib.hid hG
     have HGR := Lib.hid hgr
     have HSUB := Lib.hid hsub
     have HAL := Lib.hid hal
     have S4 := Lib.hid (LOW.out _ _ (by simp) hgr).1
     clear hG hgr hsub hal
     have x1 := S4.out.a0
     have x2 := S4.out.a1
     by_cases hkl : k < s.river.length
     ·as_aux_lemma =>
      have hk0 : (k : Int) < (s.river.length : Int) := by omega
      obtain ⟨⟨lo, hi_⟩, hx⟩ : ∃ x, s.river[k]? = some x := ⟨_, List.getElem?_eq_getElem hkl⟩
      obtain ⟨hs1, hs2, hs3⟩ := spB_iff.1 (HC.out.rr (lo, hi_) (List.mem_of_getElem? hx))
      simp only at hs1 hs2 hs3
      have HSX := Lib.hid hx
      have HS123 := Lib.hid (And.intro hs1 (And.intro hs2 hs3))
      obtain ⟨br, or_, hBr, hbr, q1, q2⟩ := HS.out.parts.1.span hx
      subst hBr
      simp only at q1 q2
      have HQQ := Lib.hid (And.intro hbr (And.intro q1 q2))
      clear hx hbr q1 q2 hs1 hs2 hs3
      go_wp2_with fail
      refine (CP.out k (by omega) _ S4.out.bel).mono ?_
      rintro e w5 ⟨pa, pb, rfl, hpa, hpb, b5⟩
      have HPAB := Lib.hid (And.intro hpa hpb)
      replace HG := Lib.hid (HG.out.below b5)
      replace HGR : Hid (GrownL [wc.heap.size] W3 w5) := Lib.hid (HGR.out.trans (GrownL.of_below b5))
      clear b5 hpa hpb x1 x2 S4
      go_upto_region 20 with fail
      obtain ⟨Uk, dk, hUk, -⟩ := (HG.out.o 0 _ _ rfl rfl).form
      rw [HAL.out] at hUk
      subst hUk
      obtain ⟨Wd, hWd⟩ : ∃ Wd, World.drew w5 = Wd := ⟨_, rfl⟩
      have gWd : GrownL [] w5 Wd := by rw [← hWd]; exact (GrownL.refl _ _).drew
      have HGd := Lib.hid (HG.out.grown gWd (by simp) (by simp))
      have HGRd : Hid (GrownL [wc.heap.size] W3 Wd) := Lib.hid (HGR.out.trans (gWd.mono (by simp)))
      have OWN : Hid (∀ b ∈ (Value.slice Uk k dk).ownBlock.toList, W3.heap.size ≤ b ∧ b < Wd.heap.size) := Lib.hid (fun b hb => HGd.out.own (k := 0) rfl (by simpa using hb))
      have KEEP : Hid (∀ W', GrownL (Value.slice Uk k dk).ownBlock.toList Wd W' → WCA w (.slice A ws.length c) (.slice (some ⟨br, or_, none⟩) s.river.length c1) (.slice A2 s.boards.length c2) (.slice B1 t.river.length d1) (.slice B2 t.boards.length d2) (.slice B3 t.leaks.length d3) (.slice B4 t.losses.length d4) W' ∧ W'.cell? ⟨br, or_ + k * 2, none⟩ = some (.int .i64 lo) ∧ W'.cell? ⟨br, or_ + k * 2 + 1, none⟩ = some (.int .i64 hi_) ∧ W'.cell? ⟨wc.heap.size, 0, none⟩ = some (.slice Uk k dk) ∧ W'.frozen? ⟨wc.heap.size, 0, none⟩ = false ∧ Wd.heap.size ≤ W'.heap.size) := Lib.hid (fun W' hW => by
       have hn : wc.heap.size ∉ (Value.slice Uk k dk).ownBlock.toList := fun hm => by have := (OWN.out _ hm).1; have := HQ.out.2.2; omega
       have h9 := (LOW.out (wc.heap.size :: (Value.slice Uk k dk).ownBlock.toList) W' (fun b hb => by
        rcases List.mem_cons.1 hb with e | hb
        ·omega
        ·have := (OWN.out b hb).1; have := HQ.out.2.2; omega) ((HGRd.out.mono (by simp)).trans (hW.mono (by simp +contextual)))).1
       exact ⟨h9, BelS.c h9.bel HQQ.out.2.1, BelS.c h9.bel HQQ.out.2.2, hW.cell (HGd.out.c 0 _ rfl) hn, (World.frozen?_of_block (a := ⟨wc.heap.size, 0, none⟩) (hW.block _ HGd.out.gl hn)).trans (HGd.out.f 0), hW.size⟩)
      have HWd := Lib.hid hWd
      clear hWd gWd
      refine wp_region_T 13 (S := GrownL (Value.slice Uk k dk).ownBlock.toList (World.drew w5)) (by kernel_rfl) (GrownL.refl _ _) (fun J0 => ?_)
      rw [HWd.out] at J0 ⊢
      refine tt 0 166 J0 ?_ (hy := by intro w' hSw; obtain ⟨k1, k2, k3, k4, -, -⟩ := KEEP.out w' hSw; have k5 := k1.a0; go_simp; try with_reducible rfl)
      try simp only [aS]
      refine tt 1 167 J0 ?_ (hy := by intro w' hSw; obtain ⟨k1, k2, k3, k4, -, -⟩ := KEEP.out w' hSw; have k5 := k1.a0; go_simp; try with_reducible rfl)
      try simp only [aS]
      refine tt 2 168 J0 ?_ (hy := by intro w' hSw; obtain ⟨k1, k2, k3, k4, -, -⟩ := KEEP.out w' hSw; have k5 := k1.a0; go_simp; try with_reducible rfl)
      try simp only [aS]
      refine tt 3 169 J0 ?_ (hy := by intro w' hSw; obtain ⟨k1, k2, k3, k4, -, -⟩ := KEEP.out w' hSw; have k5 := k1.a0; go_simp; try with_reducible rfl)
      try simp only [aS]
      refine tt 4 170 J0 ?_ (hy := by intro w' hSw; obtain ⟨k1, k2, k3, k4, -, -⟩ := KEEP.out w' hSw; have k5 := k1.a0; go_simp; try with_reducible rfl)
      try simp only [aS]
      refine tt 5 171 J0 ?_ (hy := by intro w' hSw; obtain ⟨k1, k2, k3, k4, -, -⟩ := KEEP.out w' hSw; have k5 := k1.a0; go_simp; try with_reducible rfl)
      try simp only [aS]
      refine tt 6 172 J0 ?_ (hy := by intro w' hSw; obtain ⟨k1, k2, k3, k4, -, -⟩ := KEEP.out w' hSw; have k5 := k1.a0; go_simp; try with_reducible rfl)
      try simp only [aS]
      refine tt 7 173 J0 ?_ (hy := by intro w' hSw; obtain ⟨k1, k2, k3, k4, -, -⟩ := KEEP.out w' hSw; have k5 := k1.a0; go_simp; try with_reducible rfl)
      try simp only [aS]
      refine tt 8 174 J0 ?_ (hy := by intro w' hSw; obtain ⟨k1, k2, k3, k4, -, -⟩ := KEEP.out w' hSw; have k5 := k1.a0; go_simp; try with_reducible rfl)
      try simp only [aS]
      refine oneT (i := 9) (by kernel_rfl) rfl (fun K hK => ?_)
      go_simp
      refine (narrow_any lo hi_ pa pb _ HS123.out.1 HS123.out.2.1 HS123.out.2.2 HPAB.out.1 HPAB.out.2).mono ?_
      rintro e wq ⟨l', h', rfl, y1, y2, y3, bq⟩
      have HY := Lib.hid (And.intro y1 (And.intro y2 y3))
      have J1 := J0.trans (GrownL.of_below (bs := (Value.slice Uk k dk).ownBlock.toList) bq)
      refine hK.out _ _ J1 ?_
      clear hK K y1 y2 y3
      try simp only [aS]
      refine oneT (i := 10) (by kernel_rfl) rfl (fun K hK => ?_)
      go_simp
      have J2 : GrownL (Value.slice Uk k dk).ownBlock.toList Wd (wq.alloc (.cells #[.int .i64 l', .int .i64 h'] 40)) := J1.trans (GrownL.of_below ((Below.refl _ _).alloc (Nat.le_refl _) _))
      refine hK.out _ _ J2 ?_
      clear hK K
      try simp only [aS]
      refine oneT (i := 11) (by kernel_rfl) rfl (fun K hK => ?_)
      refine step_appS rfl _ _ rfl W3.heap.size (Value.slice Uk k dk) a rfl (((HGd.out.o 0 _ _ rfl rfl).below bq).below ((Below.refl _ _).alloc (Nat.le_refl _) _)) (by have := HAL.out; omega) wq.heap.size l' h' rfl (by simp [go_sem]) (by simp [go_sem]) (by have := HGRd.out.size; have := bq.size; simp; omega) (fun v4 w4 ho4 g4 ha4 => ?_)
      have J3 := J2.trans g4
      obtain ⟨-, -, -, y4, z4, -⟩ := KEEP.out _ J3
      obtain ⟨hG2, hgr2, -, -⟩ := gs_next (k := 0) HGd.out rfl rfl HGRd.out ho4 J3 (ha4.imp (fun h => h) (fun ⟨n, e, hn⟩ => ⟨n, e, by have := J1.size; simp at hn; omega⟩))
      obtain ⟨A4, c4, rfl, -⟩ := ho4.form
      obtain ⟨n4, hn4⟩ : ∃ n4, (a ++ [(l', h')]).length = n4 := ⟨_, rfl⟩
      rw [hn4] at hG2 hgr2 ⊢
      clear ho4 g4 ha4 hn4
      try go_simp
      refine hK.out _ _ J3 ?_
      clear hK K
      try simp only [aS]
      refine tt 12 178 J3 ?_
      try simp only [aS]
      refine lastT (by kernel_rfl) rfl (fun K hK => ?_)
      go_simp
      refine hK.out _ _ ?_
      clear hK K
      try simp only [aS]
      refine doneT (by kernel_rfl) ?_ _
      obtain ⟨Wn, hWn⟩ : ∃ Wo, w4.setCell ⟨wc.heap.size, 0, none⟩ (.slice A4 n4 c4) = Wo := ⟨_, rfl⟩
      rw [hWn] at hG2 hgr2 ⊢
      have HG2 := Lib.hid hG2
      have HGR2 := Lib.hid hgr2
      have HSN : Hid (SubL (a ++ [(l', h')]) s.river) := Lib.hid (HSUB.out.snoc (y := (lo, hi_)) (by rw [HAL.out]; exact HSX.out) HY.out)
      clear hWn J0 J1 J2 J3 y4 z4 KEEP OWN HWd HGd HGRd HG HGR hG2 hgr2 bq
      go_wp2_with fail
      go_roundw
      case rel => exact ⟨k + 1, _, _, by go_num, by omega, by rw [List.length_append, HAL.out]; rfl, HSN.out, HG2.out, HGR2.out⟩
      case measure => show s.river.length - ((k : Int) + 1).toNat < s.river.length - (k : Int).toNat; omega
     ·have hk0 : (s.river.length : Int) ≤ (k : Int) := by omega
      obtain rfl : k = s.river.length := by omega
      obtain ⟨u0, hu0⟩ : ∃ x, u = x := ⟨_, rfl⟩
      obtain ⟨a0, ha0⟩ : ∃ x, a = x := ⟨_, rfl⟩
      rw [hu0, ha0] at HG
      rw [ha0] at HSUB HAL
      have HSUB0 := HSUB
      have HAL0 := HAL
      clear hu0 ha0 HSUB HAL
      go_wp2_with fail
      go_loopw [24] (fun i wr => ∃ (k : Nat) (u : Value) (a : List (Int × Int)), i = .int .i64 k ∧ k ≤ s.boards.length ∧ a.length = k ∧ SubL a s.boards ∧ GS wc.heap.size W3.heap.size [u0, u] [a0, a] wr ∧ GrownL [wc.heap.size] W3 wr) (fun i _ => s.boards.length - (intOf i).toNat)
      case atStart => exact ⟨0, _, [], rfl, by omega, rfl, fun i x y h => by simp at h, HG.out, HGR.out⟩
      case round =>
       clear HG HGR S4 x1 x2
       obtain ⟨k, u, a, rfl, hk, hal, hsub, hG, hgr⟩ := hrel
       have HG := Lib.hid hG
       have HGR := Lib.hid hgr
       have HSUB := Lib.hid hsub
       have HAL := Lib.hid hal
       have S4 := Lib.hid (LOW.out _ _ (by simp) hgr).1
       clear hG hgr hsub hal
       have x1 := S4.out.a0
       have x2 := S4.out.a1
       by_cases hkl : k < s.boards.length
       ·as_aux_lemma =>
        have hk0 : (k : Int) < (s.boards.length : Int) := by omega
        obtain ⟨⟨lo, hi_⟩, hx⟩ : ∃ x, s.boards[k]? = some x := ⟨_, List.getElem?_eq_getElem hkl⟩
        obtain ⟨pk, hpk⟩ := at_total (ws := ws) (n := k) (by rw [← HC.out.b]; exact hkl)
        have hpl : (pk.o.ps.length : Int) ≤ 8 := by have := (HW.out.ou hpk).pu; omega
        obtain ⟨hs1, hs2, hs3'⟩ := spB_iff.1 (HC.out.ob k pk (lo, hi_) hpk hx)
        simp only at hs1 hs2 hs3'
        have hs3 : hi_ ≤ 1048576 := by omega
        clear hpk hpl hs3'
        have HSX := Lib.hid hx
        have HS123 := Lib.hid (And.intro hs1 (And.intro hs2 hs3))
        obtain ⟨br, or_, hBr, hbr, q1, q2⟩ := HS.out.parts.2.span hx
        subst hBr
        simp only at q1 q2
        have HQQ := Lib.hid (And.intro hbr (And.intro q1 q2))
        clear hx hbr q1 q2 hs1 hs2 hs3
        have hwk : IntKind.i64.wrap ((k : Int) + (s.river.length : Int)) = (k : Int) + (s.river.length : Int) := IntWalk.i64_in _ (by omega)
        go_wp2_with fail
        refine (by have h9 := CP.out (k + s.river.length) (by omega) _ S4.out.bel; rw [Int.natCast_add] at h9; exact h9 : Calls Try.prog 30 #[.slice AU us.length cu_, .int .i64 ((k : Int) + (s.river.length : Int))] _ _).mono ?_
        rintro e w5 ⟨pa, pb, rfl, hpa, hpb, b5⟩
        have HPAB := Lib.hid (And.intro hpa hpb)
        replace HG := Lib.hid (HG.out.below b5)
        replace HGR : Hid (GrownL [wc.heap.size] W3 w5) := Lib.hid (HGR.out.trans (GrownL.of_below b5))
        clear b5 hpa hpb x1 x2 S4
        go_upto_region 25 with fail
        obtain ⟨Uk, dk, hUk, -⟩ := (HG.out.o 1 _ _ rfl rfl).form
        rw [HAL.out] at hUk
        subst hUk
        obtain ⟨Wd, hWd⟩ : ∃ Wd, World.drew w5 = Wd := ⟨_, rfl⟩
        have gWd : GrownL [] w5 Wd := by rw [← hWd]; exact (GrownL.refl _ _).drew
        have HGd := Lib.hid (HG.out.grown gWd (by simp) (by simp))
        have HGRd : Hid (GrownL [wc.heap.size] W3 Wd) := Lib.hid (HGR.out.trans (gWd.mono (by simp)))
        have OWN : Hid (∀ b ∈ (Value.slice Uk k dk).ownBlock.toList, W3.heap.size ≤ b ∧ b < Wd.heap.size) := Lib.hid (fun b hb => HGd.out.own (k := 1) rfl (by simpa using hb))
        have KEEP : Hid (∀ W', GrownL (Value.slice Uk k dk).ownBlock.toList Wd W' → WCA w (.slice A ws.length c) (.slice A1 s.river.length c1) (.slice (some ⟨br, or_, none⟩) s.boards.length c2) (.slice B1 t.river.length d1) (.slice B2 t.boards.length d2) (.slice B3 t.leaks.length d3) (.slice B4 t.losses.length d4) W' ∧ W'.cell? ⟨br, or_ + k * 2, none⟩ = some (.int .i64 lo) ∧ W'.cell? ⟨br, or_ + k * 2 + 1, none⟩ = some (.int .i64 hi_) ∧ W'.cell? ⟨wc.heap.size, 1, none⟩ = some (.slice Uk k dk) ∧ W'.frozen? ⟨wc.heap.size, 1, none⟩ = false ∧ Wd.heap.size ≤ W'.heap.size) := Lib.hid (fun W' hW => by
         have hn : wc.heap.size ∉ (Value.slice Uk k dk).ownBlock.toList := fun hm => by have := (OWN.out _ hm).1; have := HQ.out.2.2; omega
         have h9 := (LOW.out (wc.heap.size :: (Value.slice Uk k dk).ownBlock.toList) W' (fun b hb => by
          rcases List.mem_cons.1 hb with e | hb
          ·omega
          ·have := (OWN.out b hb).1; have := HQ.out.2.2; omega) ((HGRd.out.mono (by simp)).trans (hW.mono (by simp +contextual)))).1
         exact ⟨h9, BelS.c h9.bel HQQ.out.2.1, BelS.c h9.bel HQQ.out.2.2, hW.cell (HGd.out.c 1 _ rfl) hn, (World.frozen?_of_block (a := ⟨wc.heap.size, 1, none⟩) (hW.block _ HGd.out.gl hn)).trans (HGd.out.f 1), hW.size⟩)
        have HWd := Lib.hid hWd
        clear hWd gWd
        refine wp_region_T 13 (S := GrownL (Value.slice Uk k dk).ownBlock.toList (World.drew w5)) (by kernel_rfl) (GrownL.refl _ _) (fun J0 => ?_)
        rw [HWd.out] at J0 ⊢
        refine tt 0 196 J0 ?_ (hy := by intro w' hSw; obtain ⟨k1, k2, k3, k4, -, -⟩ := KEEP.out w' hSw; have k5 := k1.a1; go_simp; try with_reducible rfl)
        try simp only [aS]
        refine tt 1 197 J0 ?_ (hy := by intro w' hSw; obtain ⟨k1, k2, k3, k4, -, -⟩ := KEEP.out w' hSw; have k5 := k1.a1; go_simp; try with_reducible rfl)
        try simp only [aS]
        refine tt 2 198 J0 ?_ (hy := by intro w' hSw; obtain ⟨k1, k2, k3, k4, -, -⟩ := KEEP.out w' hSw; have k5 := k1.a1; go_simp; try with_reducible rfl)
        try simp only [aS]
        refine tt 3 199 J0 ?_ (hy := by intro w' hSw; obtain ⟨k1, k2, k3, k4, -, -⟩ := KEEP.out w' hSw; have k5 := k1.a1; go_simp; try with_reducible rfl)
        try simp only [aS]
        refine tt 4 200 J0 ?_ (hy := by intro w' hSw; obtain ⟨k1, k2, k3, k4, -, -⟩ := KEEP.out w' hSw; have k5 := k1.a1; go_simp; try with_reducible rfl)
        try simp only [aS]
        refine tt 5 201 J0 ?_ (hy := by intro w' hSw; obtain ⟨k1, k2, k3, k4, -, -⟩ := KEEP.out w' hSw; have k5 := k1.a1; go_simp; try with_reducible rfl)
        try simp only [aS]
        refine tt 6 202 J0 ?_ (hy := by intro w' hSw; obtain ⟨k1, k2, k3, k4, -, -⟩ := KEEP.out w' hSw; have k5 := k1.a1; go_simp; try with_reducible rfl)
        try simp only [aS]
        refine tt 7 203 J0 ?_ (hy := by intro w' hSw; obtain ⟨k1, k2, k3, k4, -, -⟩ := KEEP.out w' hSw; have k5 := k1.a1; go_simp; try with_reducible rfl)
        try simp only [aS]
        refine tt 8 204 J0 ?_ (hy := by intro w' hSw; obtain ⟨k1, k2, k3, k4, -, -⟩ := KEEP.out w' hSw; have k5 := k1.a1; go_simp; try with_reducible rfl)
        try simp only [aS]
        refine oneT (i := 9) (by kernel_rfl) rfl (fun K hK => ?_)
        go_simp
        refine (narrow_any lo hi_ pa pb _ HS123.out.1 HS123.out.2.1 HS123.out.2.2 HPAB.out.1 HPAB.out.2).mono ?_
        rintro e wq ⟨l', h', rfl, y1, y2, y3, bq⟩
        have HY := Lib.hid (And.intro y1 (And.intro y2 y3))
        have J1 := J0.trans (GrownL.of_below (bs := (Value.slice Uk k dk).ownBlock.toList) bq)
        refine hK.out _ _ J1 ?_
        clear hK K y1 y2 y3
        try simp only [aS]
        refine oneT (i := 10) (by kernel_rfl) rfl (fun K hK => ?_)
        go_simp
        have J2 : GrownL (Value.slice Uk k dk).ownBlock.toList Wd (wq.alloc (.cells #[.int .i64 l', .int .i64 h'] 40)) := J1.trans (GrownL.of_below ((Below.refl _ _).alloc (Nat.le_refl _) _))
        refine hK.out _ _ J2 ?_
        clear hK K
        try simp only [aS]
        refine oneT (i := 11) (by kernel_rfl) rfl (fun K hK => ?_)
        refine step_appS rfl _ _ rfl W3.heap.size (Value.slice Uk k dk) a rfl (((HGd.out.o 1 _ _ rfl rfl).below bq).below ((Below.refl _ _).alloc (Nat.le_refl _) _)) (by have := HAL.out; omega) wq.heap.size l' h' rfl (by simp [go_sem]) (by simp [go_sem]) (by have := HGRd.out.size; have := bq.size; simp; omega) (fun v4 w4 ho4 g4 ha4 => ?_)
        have J3 := J2.trans g4
        obtain ⟨-, -, -, y4, z4, -⟩ := KEEP.out _ J3
        obtain ⟨hG2, hgr2, -, -⟩ := gs_next (k := 1) HGd.out rfl rfl HGRd.out ho4 J3 (ha4.imp (fun h => h) (fun ⟨n, e, hn⟩ => ⟨n, e, by have := J1.size; simp at hn; omega⟩))
        obtain ⟨A4, c4, rfl, -⟩ := ho4.form
        obtain ⟨n4, hn4⟩ : ∃ n4, (a ++ [(l', h')]).length = n4 := ⟨_, rfl⟩
        rw [hn4] at hG2 hgr2 ⊢
        clear ho4 g4 ha4 hn4
        try go_simp
        refine hK.out _ _ J3 ?_
        clear hK K
        try simp only [aS]
        refine tt 12 208 J3 ?_
        try simp only [aS]
        refine lastT (by kernel_rfl) rfl (fun K hK => ?_)
        go_simp
        refine hK.out _ _ ?_
        clear hK K
        try simp only [aS]
        refine doneT (by kernel_rfl) ?_ _
        obtain ⟨Wn, hWn⟩ : ∃ Wo, w4.setCell ⟨wc.heap.size, 1, none⟩ (.slice A4 n4 c4) = Wo := ⟨_, rfl⟩
        rw [hWn] at hG2 hgr2 ⊢
        have HG2 := Lib.hid hG2
        have HGR2 := Lib.hid hgr2
        have HSN : Hid (SubL (a ++ [(l', h')]) s.boards) := Lib.hid (HSUB.out.snoc (y := (lo, hi_)) (by rw [HAL.out]; exact HSX.out) HY.out)
        clear hWn J0 J1 J2 J3 y4 z4 KEEP OWN HWd HGd HGRd HG HGR hG2 hgr2 bq
        go_wp2_with fail
        go_roundw
        case rel => exact ⟨k + 1, _, _, by go_num, by omega, by rw [List.length_append, HAL.out]; rfl, HSN.out, HG2.out, HGR2.out⟩
        case measure => show s.boards.length - ((k : Int) + 1).toNat < s.boards.length - (k : Int).toNat; omega
       ·have hk0 : (s.boards.length : Int) ≤ (k : Int) := by omega
        obtain rfl : k = s.boards.length := by omega
        have HSC : Hid (SubCa ⟨a0, a⟩ s) := Lib.hid ⟨HSUB0.out, HSUB.out, HAL0.out, HAL.out⟩
        have HCA := Lib.hid (HSC.out.ok HC.out)
        have HES := ends_sub HW.out HC.out HSC.out HP.out
        rw [HPID.out, HE.out.2.2.1, HE.out.2.2.2] at HES
        have HAT : Hid (CasAt ws ⟨a0, a⟩ id n 0) := Lib.hid (.inr ⟨.inr (.inr ⟨HK0.out.2.chk0, HCA.out, rfl⟩), HK0.out.1⟩)
        have y0 := HG.out.c 0 _ rfl
        have y1 := HG.out.c 1 _ rfl
        have ho0 := HG.out.o 0 _ _ rfl rfl
        have ho1 := HG.out.o 1 _ _ rfl rfl
        obtain ⟨L0, e0, rfl, -⟩ := ho0.form
        obtain ⟨L1, e1, rfl, -⟩ := ho1.form
        have HRC : Hid (RCa wr.heap.size (.agg #[.slice L0 a0.length e0, .slice L1 a.length e1]) ⟨a0, a⟩ wr) := Lib.hid ⟨_, _, rfl, ho0.rr E2 (by rw [HAL0.out]; show s.river.length ≤ 1000000000000000; omega), ho1.rr E2 (by rw [HAL.out]; show s.boards.length ≤ 1000000000000000; omega)⟩
        have SL := Lib.hid (LOW.out _ _ (by simp) HGR.out).1
        have BL := Lib.hid (LOW.out _ _ (by simp) HGR.out).2
        obtain ⟨f1, hf1⟩ : ∃ f, flE ws ⟨a0, a⟩ id n 1 = f := ⟨_, rfl⟩
        obtain ⟨f2, hf2⟩ : ∃ f, flE ws ⟨a0, a⟩ id n (-1) = f := ⟨_, rfl⟩
        rw [hf1, hf2] at HES
        obtain ⟨hes1, hes2⟩ := HES
        have EX := EG.out ⟨a0, a⟩ n 0 HAT.out _ wr SL.out.bel HRC.out
        rw [okN_zero, okN_zero, Int.toNat_natCast, hf1, hf2] at EX
        have EX := Lib.hid EX
        obtain ⟨X2, hX2⟩ : ∃ x, okWa 0 (exW ws ⟨a0, a⟩ (endE ws id) 1) = x := ⟨_, rfl⟩
        obtain ⟨Y2, hY2⟩ : ∃ x, okWa 0 (exW ws ⟨a0, a⟩ (endE ws id) (-1)) = x := ⟨_, rfl⟩
        rw [hX2, hY2] at EX
        have xx0 := SL.out.v0
        have xx1 := SL.out.a0
        have xx2 := SL.out.a1
        clear ho0 ho1 hf1 hf2 hX2 hY2 S4 x1 x2
        go_wp2_with fail
        refine (EX.out).mono ?_
        rintro e w7 ⟨T1, e1, T2, e2, T3, e3, T4, e4, V1, r1, V2, r2, V3, r3, V4, r4, rfl, -, -, bb⟩
        have S7 := Lib.hid (SL.out.below bb)
        have B7 := Lib.hid (BL.out.below bb)
        obtain ⟨W8, hW8⟩ : ∃ W, w7.alloc (.cells #[.int .i64 f1, .int .i64 f2, .slice T1 X2.river.length e1, .slice T2 X2.boards.length e2, .slice T3 X2.leaks.length e3, .slice T4 X2.losses.length e4, .slice V1 Y2.river.length r1, .slice V2 Y2.boards.length r2, .slice V3 Y2.leaks.length r3, .slice V4 Y2.losses.length r4] 50) = W := ⟨_, rfl⟩
        have b8 : Below w7.heap.size w7 W8 := by rw [← hW8]; exact (Below.refl _ _).alloc (Nat.le_refl _) _
        have S8 := Lib.hid (S7.out.below b8)
        have B8 := Lib.hid (B7.out.below b8)
        have N8 : Hid (BlkN w7.heap.size [.int .i64 f1, .int .i64 f2, .slice T1 X2.river.length e1, .slice T2 X2.boards.length e2, .slice T3 X2.leaks.length e3, .slice T4 X2.losses.length e4, .slice V1 Y2.river.length r1, .slice V2 Y2.boards.length r2, .slice V3 Y2.leaks.length r3, .slice V4 Y2.losses.length r4] W8) := Lib.hid (by rw [← hW8]; exact BlkN.new _ _ _)
        have HW8 := Lib.hid hW8
        clear bb hW8 b8 xx0 xx1 xx2 y0 y1
        go_upto_region 27 with fail
        rw [HW8.out]
        go_wp2_with fail
        refine (sanity_any _).mono ?_
        rintro e w9 ⟨rfl, bb⟩
        have S9 := Lib.hid (S8.out.below bb)
        have B9 := B8.out.below bb
        have N9 := N8.out.below bb
        have g0 := B9.c 0 _ rfl
        have g1 := B9.c 1 _ rfl
        have g2 := N9.c 0 _ rfl
        have g3 := N9.c 1 _ rfl
        have hd1 : decide (l1 ≤ f1) = true := decide_eq_true hes1
        have hd2 : decide (f2 ≤ l2) = true := decide_eq_true hes2
        clear bb B9 N9
        go_wp2_with fail
        go_ret
        exact ⟨rfl, S9.out.bel⟩
 ·have hdb : (d != 0) = true := by rw [bne_iff_ne]; exact hd0
  go_upto_region 4 with fail
  rw [Hwc5.out]
  go_wp2_with fail
  refine (sanity_any _).mono ?_
  rintro e wz ⟨rfl, bz⟩
  have SZ := Lib.hid (S.out.below bz)
  clear bz
  go_wp2_with fail
  go_ret
  exact ⟨rfl, SZ.out.bel⟩
end Go.Proofs.Ytkoacclbempmdaa
