/- Contract of the specification's fits. -/
import Derived.Test.YtkoacclbempmdaaGK
namespace Go.Proofs.Ytkoacclbempmdaa
open Go.RowKit

/-- The blocks of a case and a water. -/
structure CwB (w : World) (a b : Array Value) (W : World) : Prop where
 ca : W.heap[w.heap.size]? = some (.cells a 46)
 cb : W.heap[w.heap.size + 1]? = some (.cells b 27)
 bel : Below w.heap.size w W
theorem CwB.below {w W W' : World} {a b : Array Value} (h : CwB w a b W) (hb : Below W.heap.size W W') : CwB w a b W' :=
 ⟨(hb.block _ (Array.getElem?_eq_some_iff.1 h.ca).1).trans h.ca, (hb.block _ (Array.getElem?_eq_some_iff.1 h.cb).1).trans h.cb, h.bel.trans (hb.mono h.bel.size)⟩
theorem CwB.cells {w W : World} {cR cB r b l s : Value} (h : CwB w #[cR, cB] #[r, b, l, s] W) :
  W.cell? ⟨w.heap.size, 0, none⟩ = some cR ∧ W.cell? ⟨w.heap.size, 1, none⟩ = some cB ∧ W.cell? ⟨w.heap.size + 1, 0, none⟩ = some r ∧ W.cell? ⟨w.heap.size + 1, 1, none⟩ = some b := by
 have h1 := h.ca
 have h2 := h.cb
 refine ⟨?_, ?_, ?_, ?_⟩ <;> simp [World.cell?, h1, h2]

/-- The blocks, and the three numbers that a round asks for. -/
structure FtH (w : World) (a b : Array Value) (p0 : Addr) (v0 : Value) (p1 : Addr) (v1 : Value) (p2 : Addr) (v2 : Value) (W : World) : Prop where
 s : CwB w a b W
 e0 : W.cell? p0 = some v0
 e1 : W.cell? p1 = some v1
 e2 : W.cell? p2 = some v2
theorem FtH.below {w W W' : World} {a b : Array Value} {p0 p1 p2 : Addr} {v0 v1 v2 : Value} (h : FtH w a b p0 v0 p1 v1 p2 v2 W) (hb : Below W.heap.size W W') : FtH w a b p0 v0 p1 v1 p2 v2 W' :=
 ⟨h.s.below hb, (hb.cell (World.block_lt_of_cell? _ _ h.e0)).trans h.e0, (hb.cell (World.block_lt_of_cell? _ _ h.e1)).trans h.e1, (hb.cell (World.block_lt_of_cell? _ _ h.e2)).trans h.e2⟩
set_option maxHeartbeats 8000000 in
set_option maxRecDepth 1000000 in
theorem rfits_any (cR cB sR sB sL sS : Value) (R B : List Int) (CR CB : List (Int × Int)) (w : World) (h1 : RR encI w.heap.size sR R w) (h2 : RR encI w.heap.size sB B w) (h3 : RR enc2 w.heap.size cR CR w) (h4 : RR enc2 w.heap.size cB CB w)
  (hl1 : R.length = CR.length) (hl2 : B.length = CB.length) (hb1 : CR.length ≤ 100000) (hb2 : CB.length ≤ 100000) :
  Calls Try.prog 121 #[.agg #[cR, cB], .agg #[sR, sB, sL, sS]] w fun e w' => e = .returned (.bool (allIn R CR && allIn B CB)) ∧ Below w.heap.size w w' := by
 obtain ⟨A1, c1, rfl⟩ := h1.slice
 obtain ⟨A2, c2, rfl⟩ := h2.slice
 obtain ⟨A3, c3, rfl⟩ := h3.slice
 obtain ⟨A4, c4, rfl⟩ := h4.slice
 rw [hl1] at h1 ⊢
 rw [hl2] at h2 ⊢
 have H1 := Lib.hid h1
 have H2 := Lib.hid h2
 have H3 := Lib.hid h3
 have H4 := Lib.hid h4
 have S0 : Hid (CwB w #[.slice A3 CR.length c3, .slice A4 CB.length c4] #[.slice A1 CR.length c1, .slice A2 CB.length c2, sL, sS] ((w.alloc (.cells #[.slice A3 CR.length c3, .slice A4 CB.length c4] 46)).alloc (.cells #[.slice A1 CR.length c1, .slice A2 CB.length c2, sL, sS] 27))) := Lib.hid ⟨(Below.heap_alloc _ _ _ (by simp)).trans (World.alloc_heap_new w _), by have := World.alloc_heap_new (w.alloc (.cells #[.slice A3 CR.length c3, .slice A4 CB.length c4] 46)) (.cells #[.slice A1 CR.length c1, .slice A2 CB.length c2, sL, sS] 27); rwa [World.size_alloc] at this, ((Below.refl _ _).alloc (Nat.le_refl _) _).alloc (by simp) _⟩
 clear h1 h2 h3 h4
 obtain ⟨r, hr⟩ : ∃ r, (allIn R CR && allIn B CB) = r := ⟨_, rfl⟩
 have HR := Lib.hid hr
 rw [hr]
 clear hr
 go_enter Try.func121, Try.ntmps121
 go_wp2_with fail
 have hll : (CR.length : Int) ≤ 100000 := by omega
 have hll2 : (CB.length : Int) ≤ 100000 := by omega
 go_loopw [5, 6] (fun u _ wr => ∃ i : Nat, u = .int .i64 i ∧ i ≤ CR.length ∧ (∀ j, j < i → areB R CR j = true) ∧ CwB w #[.slice A3 CR.length c3, .slice A4 CB.length c4] #[.slice A1 CR.length c1, .slice A2 CB.length c2, sL, sS] wr) (fun u _ _ => CR.length - (intOf u).toNat)
 case atStart => exact ⟨0, rfl, by omega, fun j hj => by omega, S0.out⟩
 case round =>
  obtain ⟨i, rfl, hi, hno, hS⟩ := hrel
  have HNO := Lib.hid hno
  have SS := Lib.hid hS
  have hb := hS.bel
  obtain ⟨y0, y1, y2, y3⟩ := hS.cells
  clear hno hS
  by_cases hil : i < CR.length
  ·have hi0 : (i : Int) < (CR.length : Int) := by omega
   obtain ⟨n, hn⟩ : ∃ n, R[i]? = some n := ⟨_, List.getElem?_eq_getElem (by omega)⟩
   obtain ⟨⟨lo, hi2⟩, hs⟩ : ∃ s, CR[i]? = some s := ⟨_, List.getElem?_eq_getElem hil⟩
   have HE : Hid (areB R CR i = inB lo hi2 n) := Lib.hid (by unfold areB; rw [hn, hs])
   obtain ⟨bo, oo, d1, e1, -, -⟩ := (H1.out.up hb.size hb).at_ EI hn
   simp only [Value.slice.injEq] at e1
   obtain ⟨rfl, -, -⟩ := e1
   obtain ⟨bs, os, d3, e2, -, -⟩ := (H3.out.up hb.size hb).at_ E2 hs
   simp only [Value.slice.injEq] at e2
   obtain ⟨rfl, -, -⟩ := e2
   have J00 : Hid (FtH w #[.slice (some ⟨bs, os, none⟩) CR.length c3, .slice A4 CB.length c4] #[.slice (some ⟨bo, oo, none⟩) CR.length c1, .slice A2 CB.length c2, sL, sS] ⟨bo, oo + i, none⟩ (.int .i64 n) ⟨bs, os + i * 2, none⟩ (.int .i64 lo) ⟨bs, os + i * 2 + 1, none⟩ (.int .i64 hi2) wr) := Lib.hid ⟨SS.out, by have := (H1.out.up hb.size hb).cellsAt EI hn (i := 0) rfl; rwa [Nat.mul_one] at this, (H3.out.up hb.size hb).cellsAt E2 hs (i := 0) rfl, (H3.out.up hb.size hb).cellsAt E2 hs (i := 1) rfl⟩
   clear hn hs hb
   go_wp2_with fail
   refine wp_region_held_drew (S := FtH w #[.slice (some ⟨bs, os, none⟩) CR.length c3, .slice A4 CB.length c4] #[.slice (some ⟨bo, oo, none⟩) CR.length c1, .slice A2 CB.length c2, sL, sS] ⟨bo, oo + i, none⟩ (.int .i64 n) ⟨bs, os + i * 2, none⟩ (.int .i64 lo) ⟨bs, os + i * 2 + 1, none⟩ (.int .i64 hi2)) (by kernel_rfl) (J00.out.below (Below.refl _ _).drew) (fun J0 => ?_)
   refine tw 0 16 J0 ?_ (hy := by intro w' hSw; obtain ⟨y0, y1, y2, y3⟩ := hSw.s.cells; have z0 := hSw.e0; have z1 := hSw.e1; have z2 := hSw.e2; go_simp; try with_reducible rfl)
   try simp only [aS]
   refine tw 1 17 J0 ?_ (hy := by intro w' hSw; obtain ⟨y0, y1, y2, y3⟩ := hSw.s.cells; have z0 := hSw.e0; have z1 := hSw.e1; have z2 := hSw.e2; go_simp; try with_reducible rfl)
   try simp only [aS]
   refine tw 2 18 J0 ?_ (hy := by intro w' hSw; obtain ⟨y0, y1, y2, y3⟩ := hSw.s.cells; have z0 := hSw.e0; have z1 := hSw.e1; have z2 := hSw.e2; go_simp; try with_reducible rfl)
   try simp only [aS]
   refine tw 3 19 J0 ?_ (hy := by intro w' hSw; obtain ⟨y0, y1, y2, y3⟩ := hSw.s.cells; have z0 := hSw.e0; have z1 := hSw.e1; have z2 := hSw.e2; go_simp; try with_reducible rfl)
   try simp only [aS]
   refine tw 4 20 J0 ?_ (hy := by intro w' hSw; obtain ⟨y0, y1, y2, y3⟩ := hSw.s.cells; have z0 := hSw.e0; have z1 := hSw.e1; have z2 := hSw.e2; go_simp; try with_reducible rfl)
   try simp only [aS]
   refine tw 5 21 J0 ?_ (hy := by intro w' hSw; obtain ⟨y0, y1, y2, y3⟩ := hSw.s.cells; have z0 := hSw.e0; have z1 := hSw.e1; have z2 := hSw.e2; go_simp; try with_reducible rfl)
   try simp only [aS]
   refine tw 6 22 J0 ?_ (hy := by intro w' hSw; obtain ⟨y0, y1, y2, y3⟩ := hSw.s.cells; have z0 := hSw.e0; have z1 := hSw.e1; have z2 := hSw.e2; go_simp; try with_reducible rfl)
   try simp only [aS]
   refine tw 7 23 J0 ?_ (hy := by intro w' hSw; obtain ⟨y0, y1, y2, y3⟩ := hSw.s.cells; have z0 := hSw.e0; have z1 := hSw.e1; have z2 := hSw.e2; go_simp; try with_reducible rfl)
   try simp only [aS]
   refine tw 8 24 J0 ?_ (hy := by intro w' hSw; obtain ⟨y0, y1, y2, y3⟩ := hSw.s.cells; have z0 := hSw.e0; have z1 := hSw.e1; have z2 := hSw.e2; go_simp; try with_reducible rfl)
   try simp only [aS]
   refine tw 9 25 J0 ?_ (hy := by intro w' hSw; obtain ⟨y0, y1, y2, y3⟩ := hSw.s.cells; have z0 := hSw.e0; have z1 := hSw.e1; have z2 := hSw.e2; go_simp; try with_reducible rfl)
   try simp only [aS]
   refine tw 10 26 J0 ?_ (hy := by intro w' hSw; obtain ⟨y0, y1, y2, y3⟩ := hSw.s.cells; have z0 := hSw.e0; have z1 := hSw.e1; have z2 := hSw.e2; go_simp; try with_reducible rfl)
   try simp only [aS]
   refine tw 11 27 J0 ?_ (hy := by intro w' hSw; obtain ⟨y0, y1, y2, y3⟩ := hSw.s.cells; have z0 := hSw.e0; have z1 := hSw.e1; have z2 := hSw.e2; go_simp; try with_reducible rfl)
   try simp only [aS]
   refine tw 12 28 J0 ?_ (hy := by intro w' hSw; obtain ⟨y0, y1, y2, y3⟩ := hSw.s.cells; have z0 := hSw.e0; have z1 := hSw.e1; have z2 := hSw.e2; go_simp; try with_reducible rfl)
   try simp only [aS]
   refine tw 13 29 J0 ?_ (hy := by intro w' hSw; obtain ⟨y0, y1, y2, y3⟩ := hSw.s.cells; have z0 := hSw.e0; have z1 := hSw.e1; have z2 := hSw.e2; go_simp; try with_reducible rfl)
   try simp only [aS]
   refine tw 14 30 J0 ?_ (hy := by intro w' hSw; obtain ⟨y0, y1, y2, y3⟩ := hSw.s.cells; have z0 := hSw.e0; have z1 := hSw.e1; have z2 := hSw.e2; go_simp; try with_reducible rfl)
   try simp only [aS]
   refine tw 15 31 J0 ?_ (hy := by intro w' hSw; obtain ⟨y0, y1, y2, y3⟩ := hSw.s.cells; have z0 := hSw.e0; have z1 := hSw.e1; have z2 := hSw.e2; go_simp; try with_reducible rfl)
   try simp only [aS]
   refine tw 16 32 J0 ?_ (hy := by intro w' hSw; obtain ⟨y0, y1, y2, y3⟩ := hSw.s.cells; have z0 := hSw.e0; have z1 := hSw.e1; have z2 := hSw.e2; go_simp; try with_reducible rfl)
   try simp only [aS]
   refine wpAnyH_ready (rs := [17]) (by kernel_rfl) (by simp) ?_
   refine AllReadyH.cons rfl (fun K hK => ?_) AllReadyH.nil
   go_simp
   refine (within_any n lo hi2 _).mono ?_
   rintro e wq1 ⟨rfl, hq1⟩
   have J1 := J0.below hq1
   clear hq1
   refine hK.out _ _ J1 (fun _ => ?_)
   clear hK K
   try simp only [aS]
   refine tw 18 6 J1 ?_ (hy := by intro w' hSw; obtain ⟨y0, y1, y2, y3⟩ := hSw.s.cells; have z0 := hSw.e0; have z1 := hSw.e1; have z2 := hSw.e2; go_simp; try with_reducible rfl)
   try simp only [aS]
   refine wpAnyH_done (by kernel_rfl) ?_ _
   have J1 := Lib.hid J1
   obtain ⟨b, hb⟩ : ∃ b, inB lo hi2 n = b := ⟨_, rfl⟩
   rw [hb] at HE ⊢
   clear hb J0
   cases b
   ·go_wp2_with fail
    go_ret
    exact ⟨by rw [← HR.out, show allIn R CR = false from decide_eq_false (fun h => by have := h i (by omega); rw [HE.out] at this; cases this)]; rfl, J1.out.s.bel⟩
   ·go_wp2_with fail
    go_roundw
    case rel => exact ⟨i + 1, by go_num, by omega, fun j hj => by
     rcases Nat.lt_or_ge j i with h | h
     ·exact HNO.out j h
     ·obtain rfl : j = i := by omega
      exact HE.out, J1.out.s⟩
    case measure => show CR.length - ((i : Int) + 1).toNat < CR.length - (i : Int).toNat; omega
  ·have hi0 : (CR.length : Int) ≤ (i : Int) := by omega
   obtain rfl : i = CR.length := by omega
   have HT : Hid (allIn R CR = true) := Lib.hid (decide_eq_true (fun j hj => HNO.out j (by omega)))
   have SS0 := Lib.hid SS.out
   clear HNO hb SS
   go_wp2_with fail
   clear y0 y1 y2 y3
   go_loopw [7, 8] (fun u _ wr => ∃ i : Nat, u = .int .i64 i ∧ i ≤ CB.length ∧ (∀ j, j < i → areB B CB j = true) ∧ CwB w #[.slice A3 CR.length c3, .slice A4 CB.length c4] #[.slice A1 CR.length c1, .slice A2 CB.length c2, sL, sS] wr) (fun u _ _ => CB.length - (intOf u).toNat)
   case atStart => exact ⟨0, rfl, by omega, fun j hj => by omega, SS0.out⟩
   case round =>
    obtain ⟨i, rfl, hi, hno, hS⟩ := hrel
    have HNO := Lib.hid hno
    have SS := Lib.hid hS
    have hb := hS.bel
    obtain ⟨y0, y1, y2, y3⟩ := hS.cells
    clear hno hS
    by_cases hil : i < CB.length
    ·have hi0 : (i : Int) < (CB.length : Int) := by omega
     obtain ⟨n, hn⟩ : ∃ n, B[i]? = some n := ⟨_, List.getElem?_eq_getElem (by omega)⟩
     obtain ⟨⟨lo, hi2⟩, hs⟩ : ∃ s, CB[i]? = some s := ⟨_, List.getElem?_eq_getElem hil⟩
     have HE : Hid (areB B CB i = inB lo hi2 n) := Lib.hid (by unfold areB; rw [hn, hs])
     obtain ⟨bo, oo, d1, e1, -, -⟩ := (H2.out.up hb.size hb).at_ EI hn
     simp only [Value.slice.injEq] at e1
     obtain ⟨rfl, -, -⟩ := e1
     obtain ⟨bs, os, d3, e2, -, -⟩ := (H4.out.up hb.size hb).at_ E2 hs
     simp only [Value.slice.injEq] at e2
     obtain ⟨rfl, -, -⟩ := e2
     have J00 : Hid (FtH w #[.slice A3 CR.length c3, .slice (some ⟨bs, os, none⟩) CB.length c4] #[.slice A1 CR.length c1, .slice (some ⟨bo, oo, none⟩) CB.length c2, sL, sS] ⟨bo, oo + i, none⟩ (.int .i64 n) ⟨bs, os + i * 2, none⟩ (.int .i64 lo) ⟨bs, os + i * 2 + 1, none⟩ (.int .i64 hi2) wr) := Lib.hid ⟨SS.out, by have := (H2.out.up hb.size hb).cellsAt EI hn (i := 0) rfl; rwa [Nat.mul_one] at this, (H4.out.up hb.size hb).cellsAt E2 hs (i := 0) rfl, (H4.out.up hb.size hb).cellsAt E2 hs (i := 1) rfl⟩
     clear hn hs hb
     go_wp2_with fail
     refine wp_region_held_drew (S := FtH w #[.slice A3 CR.length c3, .slice (some ⟨bs, os, none⟩) CB.length c4] #[.slice A1 CR.length c1, .slice (some ⟨bo, oo, none⟩) CB.length c2, sL, sS] ⟨bo, oo + i, none⟩ (.int .i64 n) ⟨bs, os + i * 2, none⟩ (.int .i64 lo) ⟨bs, os + i * 2 + 1, none⟩ (.int .i64 hi2)) (by kernel_rfl) (J00.out.below (Below.refl _ _).drew) (fun J0 => ?_)
     refine tw 0 43 J0 ?_ (hy := by intro w' hSw; obtain ⟨y0, y1, y2, y3⟩ := hSw.s.cells; have z0 := hSw.e0; have z1 := hSw.e1; have z2 := hSw.e2; go_simp; try with_reducible rfl)
     try simp only [aS]
     refine tw 1 44 J0 ?_ (hy := by intro w' hSw; obtain ⟨y0, y1, y2, y3⟩ := hSw.s.cells; have z0 := hSw.e0; have z1 := hSw.e1; have z2 := hSw.e2; go_simp; try with_reducible rfl)
     try simp only [aS]
     refine tw 2 45 J0 ?_ (hy := by intro w' hSw; obtain ⟨y0, y1, y2, y3⟩ := hSw.s.cells; have z0 := hSw.e0; have z1 := hSw.e1; have z2 := hSw.e2; go_simp; try with_reducible rfl)
     try simp only [aS]
     refine tw 3 46 J0 ?_ (hy := by intro w' hSw; obtain ⟨y0, y1, y2, y3⟩ := hSw.s.cells; have z0 := hSw.e0; have z1 := hSw.e1; have z2 := hSw.e2; go_simp; try with_reducible rfl)
     try simp only [aS]
     refine tw 4 47 J0 ?_ (hy := by intro w' hSw; obtain ⟨y0, y1, y2, y3⟩ := hSw.s.cells; have z0 := hSw.e0; have z1 := hSw.e1; have z2 := hSw.e2; go_simp; try with_reducible rfl)
     try simp only [aS]
     refine tw 5 48 J0 ?_ (hy := by intro w' hSw; obtain ⟨y0, y1, y2, y3⟩ := hSw.s.cells; have z0 := hSw.e0; have z1 := hSw.e1; have z2 := hSw.e2; go_simp; try with_reducible rfl)
     try simp only [aS]
     refine tw 6 49 J0 ?_ (hy := by intro w' hSw; obtain ⟨y0, y1, y2, y3⟩ := hSw.s.cells; have z0 := hSw.e0; have z1 := hSw.e1; have z2 := hSw.e2; go_simp; try with_reducible rfl)
     try simp only [aS]
     refine tw 7 50 J0 ?_ (hy := by intro w' hSw; obtain ⟨y0, y1, y2, y3⟩ := hSw.s.cells; have z0 := hSw.e0; have z1 := hSw.e1; have z2 := hSw.e2; go_simp; try with_reducible rfl)
     try simp only [aS]
     refine tw 8 51 J0 ?_ (hy := by intro w' hSw; obtain ⟨y0, y1, y2, y3⟩ := hSw.s.cells; have z0 := hSw.e0; have z1 := hSw.e1; have z2 := hSw.e2; go_simp; try with_reducible rfl)
     try simp only [aS]
     refine tw 9 52 J0 ?_ (hy := by intro w' hSw; obtain ⟨y0, y1, y2, y3⟩ := hSw.s.cells; have z0 := hSw.e0; have z1 := hSw.e1; have z2 := hSw.e2; go_simp; try with_reducible rfl)
     try simp only [aS]
     refine tw 10 53 J0 ?_ (hy := by intro w' hSw; obtain ⟨y0, y1, y2, y3⟩ := hSw.s.cells; have z0 := hSw.e0; have z1 := hSw.e1; have z2 := hSw.e2; go_simp; try with_reducible rfl)
     try simp only [aS]
     refine tw 11 54 J0 ?_ (hy := by intro w' hSw; obtain ⟨y0, y1, y2, y3⟩ := hSw.s.cells; have z0 := hSw.e0; have z1 := hSw.e1; have z2 := hSw.e2; go_simp; try with_reducible rfl)
     try simp only [aS]
     refine tw 12 55 J0 ?_ (hy := by intro w' hSw; obtain ⟨y0, y1, y2, y3⟩ := hSw.s.cells; have z0 := hSw.e0; have z1 := hSw.e1; have z2 := hSw.e2; go_simp; try with_reducible rfl)
     try simp only [aS]
     refine tw 13 56 J0 ?_ (hy := by intro w' hSw; obtain ⟨y0, y1, y2, y3⟩ := hSw.s.cells; have z0 := hSw.e0; have z1 := hSw.e1; have z2 := hSw.e2; go_simp; try with_reducible rfl)
     try simp only [aS]
     refine tw 14 57 J0 ?_ (hy := by intro w' hSw; obtain ⟨y0, y1, y2, y3⟩ := hSw.s.cells; have z0 := hSw.e0; have z1 := hSw.e1; have z2 := hSw.e2; go_simp; try with_reducible rfl)
     try simp only [aS]
     refine tw 15 58 J0 ?_ (hy := by intro w' hSw; obtain ⟨y0, y1, y2, y3⟩ := hSw.s.cells; have z0 := hSw.e0; have z1 := hSw.e1; have z2 := hSw.e2; go_simp; try with_reducible rfl)
     try simp only [aS]
     refine tw 16 59 J0 ?_ (hy := by intro w' hSw; obtain ⟨y0, y1, y2, y3⟩ := hSw.s.cells; have z0 := hSw.e0; have z1 := hSw.e1; have z2 := hSw.e2; go_simp; try with_reducible rfl)
     try simp only [aS]
     refine wpAnyH_ready (rs := [17]) (by kernel_rfl) (by simp) ?_
     refine AllReadyH.cons rfl (fun K hK => ?_) AllReadyH.nil
     go_simp
     refine (within_any n lo hi2 _).mono ?_
     rintro e wq1 ⟨rfl, hq1⟩
     have J1 := J0.below hq1
     clear hq1
     refine hK.out _ _ J1 (fun _ => ?_)
     clear hK K
     try simp only [aS]
     refine tw 18 8 J1 ?_ (hy := by intro w' hSw; obtain ⟨y0, y1, y2, y3⟩ := hSw.s.cells; have z0 := hSw.e0; have z1 := hSw.e1; have z2 := hSw.e2; go_simp; try with_reducible rfl)
     try simp only [aS]
     refine wpAnyH_done (by kernel_rfl) ?_ _
     have J1 := Lib.hid J1
     obtain ⟨b, hb⟩ : ∃ b, inB lo hi2 n = b := ⟨_, rfl⟩
     rw [hb] at HE ⊢
     clear hb J0
     cases b
     ·go_wp2_with fail
      go_ret
      exact ⟨by rw [← HR.out, show allIn B CB = false from decide_eq_false (fun h => by have := h i (by omega); rw [HE.out] at this; cases this), Bool.and_false]; rfl, J1.out.s.bel⟩
     ·go_wp2_with fail
      go_roundw
      case rel => exact ⟨i + 1, by go_num, by omega, fun j hj => by
       rcases Nat.lt_or_ge j i with h | h
       ·exact HNO.out j h
       ·obtain rfl : j = i := by omega
        exact HE.out, J1.out.s⟩
      case measure => show CB.length - ((i : Int) + 1).toNat < CB.length - (i : Int).toNat; omega
    ·have hi0 : (CB.length : Int) ≤ (i : Int) := by omega
     obtain rfl : i = CB.length := by omega
     go_wp2_with fail
     go_ret
     exact ⟨by rw [← HR.out, HT.out, show allIn B CB = true from decide_eq_true (fun j hj => HNO.out j (by omega))]; rfl, SS.out.bel⟩
end Go.Proofs.Ytkoacclbempmdaa

/- Plain mathematics of what flows: one walk over all outlets. -/
namespace Go.Proofs.Ytkoacclbempmdaa

theorem take_snoc_get {α : Type} {l : List α} {n : Nat} {x : α} (h : l[n]? = some x) : l.take (n + 1) = l.take n ++ [x] := by
 obtain ⟨h1, h2⟩ := List.getElem?_eq_some_iff.1 h
 rw [List.take_succ_eq_append_getElem h1, h2]
/-- How things are: the river, the boards, the leaks, the losses. -/
structure Wa where
 river : List Int
 boards : List Int
 leaks : List Int
 losses : List Int
/-- What flows so far: what each carrier still has, what ran through, what is lost. -/
structure FS where
 t : Nat → Int
 thr : List Int
 lost : Int
def Wa.cap (s : Wa) (p : Pl) : Int := p.o.ps.getD (s.boards.getD p.at_ 0).toNat 0 + s.leaks.getD p.at_ 0
def lostS (s : Wa) (f : FS) (p : Pl) : Int := min (f.t p.c) (s.losses.getD p.at_ 0)
def thrS (s : Wa) (f : FS) (p : Pl) : Int := min (f.t p.c - lostS s f p) (s.cap p)
def stepF (s : Wa) (f : FS) (p : Pl) : FS :=
 ⟨fun c => if (c : Int) = p.o.into then thrS s f p else if c = p.c then f.t p.c - lostS s f p - thrS s f p else f.t c, f.thr ++ [thrS s f p], f.lost + lostS s f p⟩
/-- What a carrier has at its head. -/
def startT (ws : Wk) (s : Wa) (c : Nat) : Int := match (headsN ws).idxOf? c with
 | some k => s.river.getD k 0
 | none => 0
/-- What flows behind the first n outlets. -/
def flowTo (ws : Wk) (s : Wa) (n : Nat) : FS := ((allP ws).take n).foldl (stepF s) ⟨startT ws s, [], 0⟩
def flowF (ws : Wk) (s : Wa) : FS := flowTo ws s (total ws)
theorem flowTo_zero (ws : Wk) (s : Wa) : flowTo ws s 0 = ⟨startT ws s, [], 0⟩ := rfl
theorem flowTo_succ {ws : Wk} (s : Wa) {n : Nat} {p : Pl} (h : (allP ws)[n]? = some p) : flowTo ws s (n + 1) = stepF s (flowTo ws s n) p := by
 unfold flowTo
 rw [take_snoc_get h, List.foldl_append]
 rfl
theorem at_total {ws : Wk} {n : Nat} (h : n < total ws) : ∃ p, (allP ws)[n]? = some p := ⟨_, List.getElem?_eq_getElem (by rw [allP_len]; exact h)⟩
theorem lt_total {ws : Wk} {n : Nat} {p : Pl} (h : (allP ws)[n]? = some p) : n < total ws := by rw [← allP_len]; exact (List.getElem?_eq_some_iff.1 h).1
theorem thr_len (ws : Wk) (s : Wa) : ∀ n, n ≤ total ws → (flowTo ws s n).thr.length = n
 | 0, _ => rfl
 | n + 1, h => by
  obtain ⟨p, hp⟩ := at_total (ws := ws) (n := n) (by omega)
  rw [flowTo_succ s hp]
  simp [stepF, thr_len ws s n (by omega)]
theorem thr_take (ws : Wk) (s : Wa) (n : Nat) : ∀ k, n + k ≤ total ws → (flowTo ws s (n + k)).thr.take n = (flowTo ws s n).thr
 | 0, h => by rw [Nat.add_zero, List.take_of_length_le (by rw [thr_len ws s n (by omega)]; exact Nat.le_refl _)]
 | k + 1, h => by
  obtain ⟨p, hp⟩ := at_total (ws := ws) (n := n + k) (by omega)
  rw [← Nat.add_assoc, flowTo_succ s hp]
  show ((flowTo ws s (n + k)).thr ++ [_]).take n = _
  rw [List.take_append_of_le_length (by rw [thr_len ws s _ (by omega)]; omega), thr_take ws s n k (by omega)]
theorem thr_get (ws : Wk) (s : Wa) {n m i : Nat} (h : n ≤ m) (hm : m ≤ total ws) (hi : i < n) : (flowTo ws s m).thr[i]? = (flowTo ws s n).thr[i]? := by
 obtain ⟨k, rfl⟩ : ∃ k, m = n + k := ⟨m - n, by omega⟩
 rw [← thr_take ws s n k hm, List.getElem?_take, if_pos hi]
theorem thr_last (ws : Wk) (s : Wa) {n : Nat} {p : Pl} (h : (allP ws)[n]? = some p) : (flowTo ws s (n + 1)).thr[n]? = some (thrS s (flowTo ws s n) p) := by
 rw [flowTo_succ s h]
 show ((flowTo ws s n).thr ++ [_])[n]? = _
 rw [List.getElem?_append_right (by rw [thr_len ws s n (by have := lt_total h; omega)]; exact Nat.le_refl _), thr_len ws s n (by have := lt_total h; omega), Nat.sub_self]
 rfl

/-- Water that is right for works. -/
structure WaOk (ws : Wk) (s : Wa) : Prop where
 r : s.river.length = (headsN ws).length
 b : s.boards.length = total ws
 k : s.leaks.length = total ws
 l : s.losses.length = total ws
 rr : ∀ x ∈ s.river, 0 ≤ x ∧ x ≤ 1048576
 ob : ∀ (i : Nat) (p : Pl) (x : Int), (allP ws)[i]? = some p → s.boards[i]? = some x → 0 ≤ x ∧ x < p.o.ps.length
 ok : ∀ (i : Nat) (p : Pl) (x : Int), (allP ws)[i]? = some p → s.leaks[i]? = some x → p.o.k0 ≤ x ∧ x ≤ p.o.k1
 ol : ∀ (i : Nat) (p : Pl) (x : Int), (allP ws)[i]? = some p → s.losses[i]? = some x → p.o.s0 ≤ x ∧ x ≤ p.o.s1
/-- An outlet that is right. -/
structure OuOk (o : Ou) : Prop where
 i0 : 1 ≤ o.id
 i1 : o.id ≤ 1099511627776
 pl : 1 ≤ o.ps.length
 pu : o.ps.length ≤ 8
 pr : ∀ x ∈ o.ps, 0 ≤ x ∧ x ≤ 1048576
 pm : ∀ (i j : Nat) (x y : Int), o.ps[i]? = some x → o.ps[j]? = some y → i < j → x < y
 k0 : 0 ≤ o.k0
 kk : o.k0 ≤ o.k1
 k1 : o.k1 ≤ 1048576
 s0 : 0 ≤ o.s0
 ss : o.s0 ≤ o.s1
 s1 : o.s1 ≤ 1048576
theorem psGo_spec : ∀ (l : List Int) (last : Int), psGo last l = true → (∀ x ∈ l, last < x ∧ x ≤ 1048576) ∧ ∀ (i j : Nat) (x y : Int), l[i]? = some x → l[j]? = some y → i < j → x < y
 | [], _, _ => ⟨fun x hx => by simp at hx, fun i j x y h => by simp at h⟩
 | n :: r, last, h => by
  unfold psGo at h
  simp only [Bool.and_eq_true, decide_eq_true_eq] at h
  obtain ⟨h1, h2, h3⟩ := h
  obtain ⟨k1, k2⟩ := psGo_spec r n h3
  refine ⟨fun x hx => ?_, fun i j x y hi hj hij => ?_⟩
  ·rcases List.mem_cons.1 hx with rfl | hx
   ·exact ⟨h1, h2⟩
   ·have := k1 x hx
    exact ⟨by omega, this.2⟩
  ·match i, j with
   | 0, j + 1 =>
    simp at hi hj
    subst hi
    exact (k1 y (List.mem_of_getElem? hj)).1
   | i + 1, j + 1 => exact k2 i j x y (by simpa using hi) (by simpa using hj) (by omega)
theorem ouB_ok {o : Ou} (h : ouB o = true) : OuOk o := by
 unfold ouB psB spB at h
 simp only [Bool.and_eq_true, decide_eq_true_eq] at h
 obtain ⟨⟨a1, a2⟩, ⟨b1, b2, b3⟩, ⟨c1, c2, c3⟩, d1, d2, d3⟩ := h
 obtain ⟨e1, e2⟩ := psGo_spec _ _ b3
 exact ⟨a1, a2, b1, b2, fun x hx => by have := e1 x hx; omega, e2, c1, c2, c3, d1, d2, d3⟩
theorem WOk.ou {ws : Wk} (h : WOk ws) {i : Nat} {p : Pl} (hp : (allP ws)[i]? = some p) : OuOk p.o := by
 have := h.ok p (List.mem_of_getElem? hp)
 unfold okB at this
 rw [Bool.and_eq_true] at this
 exact ouB_ok this.1
theorem WaOk.at_ {ws : Wk} {s : Wa} (h : WaOk ws s) (hw : WOk ws) {i : Nat} {p : Pl} (hp : (allP ws)[i]? = some p) :
  ∃ (b : Nat) (k l c : Int), s.boards[i]? = some (b : Int) ∧ s.leaks[i]? = some k ∧ s.losses[i]? = some l ∧ p.o.ps[b]? = some c ∧ b < p.o.ps.length ∧ 0 ≤ c ∧ c ≤ 1048576 ∧ 0 ≤ k ∧ k ≤ 1048576 ∧ 0 ≤ l ∧ l ≤ 1048576 ∧ s.cap p = c + k ∧ s.losses.getD p.at_ 0 = l := by
 have hi := lt_total hp
 have o := hw.ou hp
 obtain ⟨hat, -⟩ := allP_inv hp
 obtain ⟨b, hb⟩ : ∃ b, s.boards[i]? = some b := ⟨_, List.getElem?_eq_getElem (by rw [h.b]; exact hi)⟩
 obtain ⟨k, hk⟩ : ∃ k, s.leaks[i]? = some k := ⟨_, List.getElem?_eq_getElem (by rw [h.k]; exact hi)⟩
 obtain ⟨l, hl⟩ : ∃ l, s.losses[i]? = some l := ⟨_, List.getElem?_eq_getElem (by rw [h.l]; exact hi)⟩
 have h1 := h.ob i p b hp hb
 have h2 := h.ok i p k hp hk
 have h3 := h.ol i p l hp hl
 obtain ⟨n, rfl⟩ : ∃ n : Nat, b = n := ⟨b.toNat, by omega⟩
 have hn : n < p.o.ps.length := by omega
 obtain ⟨c, hc⟩ : ∃ c, p.o.ps[n]? = some c := ⟨_, List.getElem?_eq_getElem hn⟩
 have h4 := o.pr c (List.mem_of_getElem? hc)
 have := o.k0
 have := o.k1
 have := o.s0
 have := o.s1
 refine ⟨n, k, l, c, hb, hk, hl, hc, hn, h4.1, h4.2, by omega, by omega, by omega, by omega, ?_, ?_⟩
 ·unfold Wa.cap
  rw [hat, List.getD_eq_getElem?_getD, List.getD_eq_getElem?_getD, List.getD_eq_getElem?_getD, hb, hk]
  simp [hc]
 ·rw [hat, List.getD_eq_getElem?_getD, hl]
  rfl
/-- Bounds of what flows. -/
structure FB (f : FS) : Prop where
 t : ∀ c, 0 ≤ f.t c ∧ f.t c ≤ 1048576
 r : ∀ x ∈ f.thr, 0 ≤ x ∧ x ≤ 1048576
 l0 : 0 ≤ f.lost
 l1 : f.lost ≤ 1048576 * f.thr.length
theorem startT_b {ws : Wk} {s : Wa} (h : WaOk ws s) (c : Nat) : 0 ≤ startT ws s c ∧ startT ws s c ≤ 1048576 := by
 unfold startT
 cases hx : (headsN ws).idxOf? c with
 | none => simp
 | some k =>
  show 0 ≤ s.river.getD k 0 ∧ s.river.getD k 0 ≤ 1048576
  rw [List.getD_eq_getElem?_getD]
  cases hr : s.river[k]? with
  | none => simp
  | some x => exact h.rr x (List.mem_of_getElem? hr)
theorem FB.step {ws : Wk} {s : Wa} (h : WaOk ws s) (hw : WOk ws) {f : FS} (hf : FB f) {i : Nat} {p : Pl} (hp : (allP ws)[i]? = some p) :
  FB (stepF s f p) ∧ 0 ≤ lostS s f p ∧ lostS s f p ≤ 1048576 ∧ lostS s f p ≤ f.t p.c ∧ 0 ≤ thrS s f p ∧ thrS s f p ≤ 1048576 ∧ thrS s f p ≤ f.t p.c - lostS s f p := by
 obtain ⟨b, k, l, c, -, -, -, -, -, c0, c1, k0, k1, l0, l1, e1, e2⟩ := h.at_ hw hp
 obtain ⟨t0, t1⟩ := hf.t p.c
 have a1 : lostS s f p = min (f.t p.c) l := by unfold lostS; rw [e2]
 have a2 : thrS s f p = min (f.t p.c - lostS s f p) (c + k) := by unfold thrS; rw [e1]
 have b1 : 0 ≤ lostS s f p ∧ lostS s f p ≤ f.t p.c ∧ lostS s f p ≤ 1048576 := by rw [a1]; omega
 have b2 : 0 ≤ thrS s f p ∧ thrS s f p ≤ f.t p.c - lostS s f p := by rw [a2]; omega
 refine ⟨⟨fun c' => ?_, fun x hx => ?_, ?_, ?_⟩, b1.1, b1.2.2, b1.2.1, b2.1, by omega, b2.2⟩
 ·have e : (stepF s f p).t c' = if (c' : Int) = p.o.into then thrS s f p else if c' = p.c then f.t p.c - lostS s f p - thrS s f p else f.t c' := rfl
  rw [e]
  split
  ·omega
  ·split
   ·omega
   ·exact hf.t c'
 ·rcases List.mem_append.1 hx with hx | hx
  ·exact hf.r x hx
  ·rw [List.mem_singleton] at hx
   subst hx
   omega
 ·show 0 ≤ f.lost + lostS s f p
  have := hf.l0
  omega
 ·show f.lost + lostS s f p ≤ 1048576 * ((f.thr ++ [_]).length : Nat)
  rw [List.length_append]
  have := hf.l1
  simp
  omega
theorem FB.flow {ws : Wk} {s : Wa} (h : WaOk ws s) (hw : WOk ws) : ∀ n, n ≤ total ws → FB (flowTo ws s n)
 | 0, _ => ⟨startT_b h, (fun x hx => by simp [flowTo_zero] at hx), Int.le_refl _, by simp [flowTo_zero]⟩
 | n + 1, hn => by
  obtain ⟨p, hp⟩ := at_total (ws := ws) (n := n) (by omega)
  rw [flowTo_succ s hp]
  exact ((FB.flow h hw n (by omega)).step h hw hp).1
/-- An outlet ahead of those of a carrier lies on one before it. -/
theorem pl_before {ws : Wk} {n c : Nat} {p : Pl} (hp : (allP ws)[n]? = some p) (h : n < pre ws c) : p.c < c := by
 obtain ⟨-, os, h1, h2, h3⟩ := allP_inv hp
 rcases Nat.lt_or_ge p.c c with h' | h'
 ·exact h'
 ·have := pre_mono (ws := ws) h'
  omega
theorem pl_behind {ws : Wk} {n c : Nat} {p : Pl} (hp : (allP ws)[n]? = some p) (h : pre ws c ≤ n) : c ≤ p.c := by
 obtain ⟨-, os, h1, h2, h3⟩ := allP_inv hp
 rcases Nat.lt_or_ge p.c c with h' | h'
 ·have := pre_mono (ws := ws) (c := p.c + 1) (d := c) h'
  have := (List.getElem?_eq_some_iff.1 h2).1
  have := pre_succ h1
  omega
 ·exact h'
theorem WOk.into_lt {ws : Wk} (hw : WOk ws) {n : Nat} {p : Pl} (hp : (allP ws)[n]? = some p) {c : Nat} (h : p.o.into = c) : p.c < c ∧ c < ws.length := by
 rcases hw.into (List.mem_of_getElem? hp) with h' | ⟨k, h1, h2, h3, -⟩
 ·omega
 ·omega
/-- What a carrier has ahead of its outlets. -/
theorem t_before {ws : Wk} (hw : WOk ws) (s : Wa) {c : Nat} {r : Int} (hr : FstIs (fun o : Ou => o.into) (outs ws) c r) : ∀ n, n ≤ pre ws c → (flowTo ws s n).t c = if 0 ≤ r ∧ r < n then (flowTo ws s n).thr.getD r.toNat 0 else startT ws s c
 | 0, _ => by
  rw [if_neg (by omega)]
  rfl
 | n + 1, h => by
  have ih := t_before hw s hr n (by omega)
  have hnt : n < total ws := by have := pre_le ws c; omega
  obtain ⟨p, hp⟩ := at_total hnt
  have hc := pl_before hp (by omega : n < pre ws c)
  have ho := (outs_get hp).1
  have hl := thr_len ws s n (by omega)
  rw [flowTo_succ s hp]
  show (if (c : Int) = p.o.into then _ else if c = p.c then _ else (flowTo ws s n).t c) = _
  by_cases e : (c : Int) = p.o.into
  ·have hrn : r = n := by
    refine hr.at_ (fun j o hj ho' he => ?_) ho e.symm
    obtain ⟨q, hq⟩ := at_total (ws := ws) (n := j) (by omega)
    have := (outs_get hq).1
    rw [this] at ho'
    cases ho'
    exact (hw.one j n q p hq hp hj).2 (by omega) (by rw [he, e])
   rw [if_pos e, if_pos (by omega)]
   show _ = ((flowTo ws s n).thr ++ [_]).getD r.toNat 0
   rw [List.getD_eq_getElem?_getD, List.getElem?_append_right (by omega), show r.toNat - (flowTo ws s n).thr.length = 0 by omega]
   rfl
  ·rw [if_neg e, if_neg (by omega), ih]
   have hne : r ≠ n := by
    intro hrn
    rcases hr with ⟨i, q, hq, he, -, h2⟩ | ⟨-, h2⟩
    ·obtain rfl : i = n := by omega
     rw [ho] at hq
     cases hq
     exact e he.symm
    ·omega
   by_cases hb : 0 ≤ r ∧ r < n
   ·rw [if_pos hb, if_pos (by omega)]
    show _ = ((flowTo ws s n).thr ++ [_]).getD r.toNat 0
    rw [List.getD_eq_getElem?_getD, List.getD_eq_getElem?_getD, List.getElem?_append_left (by omega)]
   ·rw [if_neg hb, if_neg (by omega)]
/-- What a carrier has behind its outlets stays. -/
theorem t_after {ws : Wk} (hw : WOk ws) (s : Wa) (c n : Nat) : ∀ k, pre ws (c + 1) = n → n + k ≤ total ws → (flowTo ws s (n + k)).t c = (flowTo ws s n).t c
 | 0, _, _ => rfl
 | k + 1, h, hk => by
  obtain ⟨p, hp⟩ := at_total (ws := ws) (n := n + k) (by omega)
  have := pl_behind (c := c + 1) hp (by omega)
  rw [← Nat.add_assoc, flowTo_succ s hp]
  show (if (c : Int) = p.o.into then _ else if c = p.c then _ else (flowTo ws s (n + k)).t c) = _
  rw [if_neg (fun e => by have := (hw.into_lt hp e.symm).1; omega), if_neg (by omega)]
  exact t_after hw s c n k h (by omega)
theorem t_end {ws : Wk} (hw : WOk ws) (s : Wa) (c : Nat) : (flowF ws s).t c = (flowTo ws s (pre ws (c + 1))).t c := by
 have h := pre_le ws (c + 1)
 have := t_after hw s c (pre ws (c + 1)) (total ws - pre ws (c + 1)) rfl (by omega)
 rwa [show pre ws (c + 1) + (total ws - pre ws (c + 1)) = total ws by omega] at this
theorem t_step {ws : Wk} (hw : WOk ws) (s : Wa) {n : Nat} {p : Pl} (hp : (allP ws)[n]? = some p) : (flowTo ws s (n + 1)).t p.c = (flowTo ws s n).t p.c - lostS s (flowTo ws s n) p - thrS s (flowTo ws s n) p := by
 rw [flowTo_succ s hp]
 show (if (p.c : Int) = p.o.into then _ else if p.c = p.c then _ else _) = _
 rw [if_neg (fun e => by have := (hw.into_lt hp e.symm).1; omega), if_pos rfl]
/-- The tails. -/
def tailsL (ws : Wk) (s : Wa) : List Int := (List.range ws.length).map (flowF ws s).t
end Go.Proofs.Ytkoacclbempmdaa
