/- Contract of signsOf. -/
import Derived.Test.YtkoacclbempmdaaOOC
namespace Go.Proofs.Ytkoacclbempmdaa
open Go.RowKit
attribute [local go_sem] Oper.semAt_some

set_option maxHeartbeats 16000000 in
set_option maxRecDepth 1000000 in
theorem signsOf_any (A : Option Addr) (c : Nat) (ws : Wk) (id : Int) (w : World) (h : RK w.heap.size (.slice A ws.length c) ws w) (hw : WOk ws) (hid : (Lit.int .i64 id).wf = true) :
  Calls Try.prog 89 #[.agg #[.slice A ws.length c], .int .i64 id] w fun e w' => ∃ v1 v2 v3, e = .returned (.agg #[v1, v2, v3]) ∧ OwnG encI 1 3 w.heap.size v1 (sigH ws id) w' ∧ OwnG encI 1 3 w.heap.size v2 (sigO ws id) w' ∧ OwnG encI 1 3 w.heap.size v3 (sigR ws id) w' ∧ Below w.heap.size w w' := by
 obtain ⟨i0, hz0, hj0, hj1, hj2⟩ := info_parts infoInt
 have H := Lib.hid h
 have HW := Lib.hid hw
 have HID := Lib.hid hid
 have C1 := Lib.hid fun W (hb : Below w.heap.size w W) => paths_any A c ws W (h.up hb.size hb) hw
 have C2 := Lib.hid fun W (hb : Below w.heap.size w W) => heads_any A ws.length c ws W (h.up hb.size hb) hw
 clear h hw hid
 refine (callsIn_wide (n := 3)).1 ?_
 refine callsIn_of_wp_marks Try.func89 rfl trivial ?_ rfl
 simp only [Try.ntmps89, List.size_toArray, List.length_cons, List.length_nil, Nat.reduceAdd, Nat.reduceSub, Array.replicate_succ, Array.replicate_zero, List.push_toArray, List.append_toArray, List.nil_append, List.cons_append]
 gi_wp2_with fail
 refine ⟨trivial, (callsIn_wide.2 (C1.out _ ?b)).mono ?_⟩
 case b => exact (((Below.refl _ _).alloc (Nat.le_refl _) _).alloc (by simp) _).alloc (by simp; omega) _
 rintro e w1 ⟨rfl, hpm, b1⟩
 have S1 : Hid (SgS w (.slice A ws.length c) (endS (byIdS ws (allP ws) id) []) w1) := Lib.hid (SgS.below ⟨by simp [go_sem], by simp [go_sem], by simp [go_sem], by simp [go_sem], by simp [go_sem], by simp [go_sem], by simp [go_sem], fun d hd => by
   have : d = 0 ∨ d = 1 ∨ d = 2 ∨ d = 3 ∨ d = 4 ∨ d = 5 ∨ d = 6 ∨ d = 7 ∨ d = 8 ∨ d = 9 ∨ d = 10 ∨ d = 11 ∨ d = 12 ∨ d = 13 ∨ d = 14 ∨ d = 15 := by omega
   rcases this with rfl | rfl | rfl | rfl | rfl | rfl | rfl | rfl | rfl | rfl | rfl | rfl | rfl | rfl | rfl | rfl <;> exact ⟨by simp [go_sem, endS], by simp [go_sem]⟩, (((Below.refl _ _).alloc (Nat.le_refl _) _).alloc (by simp) _).alloc (by simp; omega) _⟩ b1)
 obtain ⟨u, hu, hlook⟩ := hpm.look id HID.out
 have r18 := hlook w1 rfl
 obtain ⟨ids, hids⟩ : ∃ ids, byIdS ws (allP ws) id = ids := ⟨_, rfl⟩
 have HIDS := Lib.hid hids
 have hil : ids.length ≤ 60 := by rw [← hids]; have := byIdS_len HW.out (total ws) id; rwa [List.take_of_length_le (by rw [allP_len]; exact Nat.le_refl _)] at this
 rw [hids] at hu S1
 have HU : Hid (OwnG encI 1 3 (w.heap.size + 3) u ids w1) := Lib.hid (hu.low (by simp))
 obtain ⟨Au, cu, rfl, -⟩ := hu.form
 have x0 := S1.out.wk
 simp only [World.size_alloc] at r18
 have HROW : Hid (∀ b, (Value.slice Au ids.length cu).ownBlock = some b → b < w1.heap.size) := Lib.hid fun b hb => (hu.lt b hb).2
 clear hpm hu hlook hids b1 C1
 have hs1 := S1.out.siz
 have x0a : (w1.alloc (.cells #[(.slice Au ids.length cu)] 25)).cell? ⟨w.heap.size, 0, none⟩ = some (.slice A ws.length c) := BelS.c ((Below.refl _ _).alloc (Nat.le_refl _) _) x0
 clear x0
 gi_wp2_with fail
 refine ⟨trivial, (callsIn_wide.2 (places_any A ws.length c _)).mono ?_⟩
 rintro e w2 ⟨rfl, rfl⟩
 obtain ⟨W0, hW0⟩ : ∃ W0, (w1.alloc (.cells #[(.slice Au ids.length cu)] 25)).alloc (.cells #[.slice A ws.length c] 24) = W0 := ⟨_, rfl⟩
 have hz0' : W0.heap.size = w1.heap.size + 2 := by rw [← hW0]; simp
 have bw : Below w1.heap.size w1 W0 := by rw [← hW0]; exact ((Below.refl _ _).alloc (Nat.le_refl _) _).alloc (by simp) _
 have HZ := Lib.hid hz0'
 have HS1 : Hid (w.heap.size + 3 ≤ w1.heap.size) := Lib.hid hs1
 have I0 : Hid (SgS w (.slice A ws.length c) (endS ids []) W0 ∧ W0.cell? ⟨w1.heap.size, 0, none⟩ = some (.slice Au ids.length cu) ∧ OwnG encI 1 3 (w.heap.size + 3) (.slice Au ids.length cu) ids W0 ∧ W0.cell? ⟨w1.heap.size + 1, 0, none⟩ = some (.slice A ws.length c)) := Lib.hid ⟨S1.out.below bw, by rw [← hW0]; simp [go_sem], HU.out.below bw, by rw [← hW0]; simp [go_sem]⟩
 clear hz0' bw x0a hs1 r18
 gi_wp2_with fail
 try rw [hW0]
 refine wpIn_rangeP (gf := 132) (lb := #[.pointer (some ⟨w1.heap.size + 1, 0, none⟩)]) rfl enters_places1
  (placesP_seq w W0 (w1.heap.size + 1) A ws.length c ws H.out (by have := HW.out.tot; omega) (by have := HW.out.len; omega)) (Below.refl _ _) (fun _ => rfl)
  (fun p W => SgS w (.slice A ws.length c) (endS ids p) W ∧ W.cell? ⟨w1.heap.size, 0, none⟩ = some (.slice Au ids.length cu) ∧ OwnG encI 1 3 (w.heap.size + 3) (.slice Au ids.length cu) ids W ∧ W.cell? ⟨w1.heap.size + 1, 0, none⟩ = some (.slice A ws.length c)) (fun _ _ _ => False) (fun _ _ h => ⟨h.1.bel, h.2.2.2⟩) ?h0 ?hI (fun _ _ _ _ h _ => h) ?round ?done (fun _ _ _ _ h _ => h.elim)
 case h0 =>
  intro W' hb hsz
  obtain ⟨a1, a2, a3, a4⟩ := I0.out
  exact ⟨a1.below hb, BelS.c hb a2, a3.below hb, BelS.c hb a4⟩
 case hI =>
  rintro p W1 W2 ⟨a1, a2, a3, a4⟩ hg
  have nb : ∀ k, k < W0.heap.size → k ∉ [W0.heap.size, W0.heap.size + 1] := fun k hk hm => by simp at hm; omega
  exact ⟨a1.grown hg (fun b hb => by have := HZ.out; have := HS1.out; simp at hb; omega), hg.cell a2 (nb _ (by have := HZ.out; show w1.heap.size < _; omega)), a3.grown hg (fun b hb => nb _ (by have := HROW.out b hb; have := HZ.out; omega)), hg.cell a4 (nb _ (by have := HZ.out; show w1.heap.size + 1 < _; omega))⟩
 case round =>
  rintro pre x W ⟨a1, a2, a3, a4⟩ hsz hsp
  have HA1 := Lib.hid a1
  have HA2 := Lib.hid a2
  have HA3 := Lib.hid a3
  have HA4 := Lib.hid a4
  have HSP := Lib.hid (sp_next hsp)
  clear a1 a2 a3 a4 hsp
  obtain ⟨xa, xc, xn, x⟩ := x
  dsimp only [encP]
  gi_wp2_with fail
  refine ⟨Keeps.of_below (((Below.refl _ _).alloc (Nat.le_refl _) _).alloc (by simp) _), fun W2 hg2 hl2 => ?_⟩
  obtain ⟨hP, hO, hg, hz2⟩ := po_cells hg2 (by have := HZ.out; omega)
  have nb : ∀ k, k < W0.heap.size → k ∉ [W0.heap.size + 1] := fun k hk hm => by simp at hm; omega
  have B1 := Lib.hid (HA1.out.grown hg (fun b hb => by have := HZ.out; have := HS1.out; simp at hb; omega))
  have B2 := Lib.hid (hg.cell HA2.out (nb _ (by have := HZ.out; show w1.heap.size < _; omega)))
  have B3 := Lib.hid (HA3.out.grown hg (fun b hb => nb _ (by have := HROW.out b hb; have := HZ.out; omega)))
  have B4 := Lib.hid (hg.cell HA4.out (nb _ (by have := HZ.out; show w1.heap.size + 1 < _; omega)))
  have PP := Lib.hid hP
  have OO := Lib.hid hO
  have HWS : Hid (W0.heap.size + 2 ≤ W.heap.size) := Lib.hid hsz
  obtain ⟨n, hxn, hpre, hnl, hnt⟩ := HSP.out
  have hc16 : xc < 16 := by
   obtain ⟨-, os, h1, -, -⟩ := allP_inv hxn
   have h9 : xc < ws.length := (List.getElem?_eq_some_iff.1 h1).1
   have := HW.out.len
   omega
  have hxnb : xn ≤ 60 := by
   obtain ⟨-, os, h1, h2, h3⟩ := allP_inv hxn
   have := pre_lt h1 (List.getElem?_eq_some_iff.1 h2).1
   have := HW.out.tot
   simp only at this h3 ⊢
   omega
  have hE : Hid (∀ d, ((endS ids (pre ++ [(⟨xa, xc, xn, x⟩ : Pl)]) d : Nat) : Int) = if x.id ∈ ids ∧ xc = d then (xn : Int) + 1 else (endS ids pre d : Nat)) := Lib.hid fun d => by
   rw [endS_snoc]
   simp only
   split <;> simp
  have o0 := hO.id
  have t0 := B2.out
  clear hP hO hg hz2 hg2 hl2 hxn hpre hnl hnt HSP nb hsz HA1 HA2 HA3 HA4
  gi_wp2_with fail
  refine ⟨trivial, (CallsIn.inRound _ (callsIn_wide.2 (containsI_any (.slice Au ids.length cu) ids x.id W2 (B3.out.rr EI (by omega)) (by omega)))).mono ?_⟩
  rintro e W3 ⟨rfl, b3⟩
  have D1 := Lib.hid (B1.out.below b3)
  have D2 := Lib.hid (BelS.c b3 B2.out)
  have D3 := Lib.hid (B3.out.below b3)
  have D4 := Lib.hid (BelS.c b3 B4.out)
  have PP3 := Lib.hid (PP.out.below b3)
  have K3 : Hid (Keeps [W0.heap.size, W0.heap.size + 1] W2 W3) := Lib.hid (Keeps.of_below b3)
  obtain ⟨b, hb⟩ : ∃ b, decide (x.id ∈ ids) = b := ⟨_, rfl⟩
  have HB := Lib.hid hb
  rw [hb]
  clear hb b3 o0 t0 B1 B2 B3 B4 PP OO
  cases b
  ·gi_wp2_with fail
   have hE2 : endS ids (pre ++ [(⟨xa, xc, xn, x⟩ : Pl)]) = endS ids pre := by
    funext d
    have := hE.out d
    rw [if_neg (fun h => by have := HB.out; rw [decide_eq_false_iff_not] at this; exact this h.1)] at this
    omega
   exact ⟨K3.out, by rw [hE2]; exact D1.out, D2.out, D3.out, D4.out⟩
  ·have p1 := PP3.out.c
   have p2 := PP3.out.n
   simp only at p1 p2
   obtain ⟨e1, e2⟩ := D1.out.en xc hc16
   have hc0 : (xc : Int) < 16 := by omega
   have hc1 : (0 : Int) ≤ (xc : Int) := by omega
   have hn0 : (xn : Int) ≤ 60 := by omega
   generalize endS ids pre xc = z at e1
   gi_wp2_with fail
   have hid2 : x.id ∈ ids := by have := HB.out; rwa [decide_eq_true_iff] at this
   have gs : GrownL [w.heap.size + 2] W3 (W3.setCell ⟨w.heap.size + 1 + 1, xc, none⟩ (.int .i64 ((xn : Int) + 1))) := GrownL.set _ _ _ (by simp)
   have ns : ∀ k, w.heap.size + 3 ≤ k → k ∉ [w.heap.size + 2] := fun k hk hm => by simp at hm; omega
   exact ⟨K3.out.trans (Keeps.of_grown gs (fun o ho hm => by have := HZ.out; have := HS1.out; simp at ho hm; omega)), D1.out.set hc16 (fun d => by
    rw [hE.out d]
    by_cases ed : d = xc
    ·rw [if_pos ⟨hid2, ed.symm⟩, if_pos ed]
    ·rw [if_neg (fun h => ed h.2.symm), if_neg ed]), gs.cell D2.out (ns _ HS1.out), D3.out.grown gs (fun b hb => ns _ (D3.out.lt b hb).1), gs.cell D4.out (ns _ (by have := HS1.out; show _ ≤ w1.heap.size + 1; omega))⟩
 case done =>
  rintro xs W hS ⟨a1, -, -, -⟩ hK
  obtain rfl : xs = allP ws := hS
  obtain ⟨E, hE⟩ : ∃ E, endS ids (allP ws) = E := ⟨_, rfl⟩
  have HE : Hid (endE ws id = E) := Lib.hid (by unfold endE; rw [HIDS.out]; exact hE)
  rw [hE] at a1
  have SS := Lib.hid a1
  have HKK := Lib.hid hK
  have hwz : W0.heap.size < W.heap.size := (Array.getElem?_eq_some_iff.1 hK).1
  have HWZ : Hid (W0.heap.size < W.heap.size) := Lib.hid hwz
  have t0 := a1.wk
  have t0a : (W.alloc (.cells #[.slice none 0 0, .slice none 0 0, .slice none 0 0] 138)).cell? ⟨w.heap.size, 0, none⟩ = some (.slice A ws.length c) := BelS.c ((Below.refl _ _).alloc (Nat.le_refl _) _) t0
  clear hE a1 hK hwz t0
  gi_wp2_with fail
  refine ⟨trivial, (callsIn_wide.2 (C2.out _ ?b2)).mono ?_⟩
  case b2 => exact SS.out.bel.alloc SS.out.bel.size _
  rintro e w2 ⟨hv, rfl, hvo, b2⟩
  have hs := SS.out.siz
  have HS := Lib.hid hs
  have HW2 : Hid (W.heap.size + 1 ≤ w2.heap.size) := Lib.hid (by have := b2.size; simpa using this)
  have HWW : Hid (W.heap.size < w2.heap.size) := Lib.hid (by have := HW2.out; omega)
  have SS2 := Lib.hid ((SS.out.below ((Below.refl _ _).alloc (Nat.le_refl _) (.cells #[.slice none 0 0, .slice none 0 0, .slice none 0 0] 138))).below b2)
  have G2 : Hid (G3 W.heap.size w2.heap.size (.slice none 0 0) (.slice none 0 0) (.slice none 0 0) [] [] [] w2) := Lib.hid ⟨BelS.c b2 (by simp [go_sem]), BelS.c b2 (by simp [go_sem]), BelS.c b2 (by simp [go_sem]), (b2.frozen (p := ⟨W.heap.size, 0, none⟩) (by simp)).trans (by simp [go_sem]), (b2.frozen (p := ⟨W.heap.size, 1, none⟩) (by simp)).trans (by simp [go_sem]), (b2.frozen (p := ⟨W.heap.size, 2, none⟩) (by simp)).trans (by simp [go_sem]), OwnG.nil _ _ _ _ _, OwnG.nil _ _ _ _ _, OwnG.nil _ _ _ _ _, (fun b e => by cases e), (fun b e => by cases e), (fun b e => by cases e), HWW.out⟩
  have M2 : Hid (w2.heap[W0.heap.size]? = some (.deferred (some []))) := Lib.hid ((b2.block W0.heap.size (by have := HWZ.out; simp; omega)).trans ((Below.heap_alloc _ _ _ HWZ.out).trans HKK.out))
  have hhl := headsL_len HW.out
  have HV : Hid (RR encI w2.heap.size hv (headsL ws) w2) := Lib.hid (hvo.rr EI (by omega))
  have HVB : Hid (∀ b, hv.ownBlock = some b → W.heap.size < b) := Lib.hid fun b hb => by have := (hvo.lt b hb).1; simp at this; omega
  obtain ⟨Ah, ch, rfl, -⟩ := hvo.form
  obtain ⟨nh, hnh⟩ : ∃ nh, (headsL ws).length = nh := ⟨_, rfl⟩
  have HNH := Lib.hid hnh
  rw [hnh] at HV HVB hhl ⊢
  have hh0 : (nh : Int) ≤ 16 := by omega
  clear b2 hvo hnh t0a HKK SS
  gi_wp2_with fail
  gi_loopw [36] (fun u wr => ∃ i : Nat, u = .int .i64 i ∧ i ≤ nh ∧ (∃ u1, G3 W.heap.size w2.heap.size u1 (.slice none 0 0) (.slice none 0 0) (((headsN ws).take i).map (sgH E)) [] [] wr) ∧ SgS w (.slice A ws.length c) E wr ∧ GrownL [W.heap.size] w2 wr) (fun u _ => nh - (intOf u).toNat)
  case atStart => exact ⟨0, rfl, by omega, ⟨_, G2.out⟩, SS2.out, GrownL.refl _ _⟩
  case round =>
   obtain ⟨i, rfl, hi, ⟨u1, hG⟩, hS2, hgr⟩ := hrel
   have HGA := Lib.hid hG
   have SS3 := Lib.hid hS2
   have HGR := Lib.hid hgr
   obtain ⟨A1, c1, rfl, -⟩ := hG.o1.form
   clear hG hS2 hgr SS2 G2
   by_cases hil : i < nh
   ·have hi0 : (i : Int) < (nh : Int) := by omega
    obtain ⟨x, hx⟩ : ∃ x, (headsN ws)[i]? = some x := ⟨_, List.getElem?_eq_getElem (by have := HNH.out; simp [headsL] at this; omega)⟩
    have hx16 : x < 16 := by have := headsN_lt (List.mem_of_getElem? hx); have := HW.out.len; omega
    have hxl : (headsL ws)[i]? = some (x : Int) := by unfold headsL; rw [List.getElem?_map, hx]; rfl
    have HT : Hid (((headsN ws).take (i + 1)).map (sgH E) = ((headsN ws).take i).map (sgH E) ++ [min (E x : Int) 1]) := Lib.hid (by rw [take_snoc_get hx, List.map_append]; rfl)
    obtain ⟨bh, oh, rfl, hbh, q0⟩ := HV.out.int hxl
    have q0 : wr.cell? ⟨bh, oh + i, none⟩ = some (.int .i64 x) := HGR.out.cell q0 (by have := HVB.out bh rfl; simp; omega)
    obtain ⟨l1, hl1⟩ : ∃ l1, ((headsN ws).take i).map (sgH E) = l1 := ⟨_, rfl⟩
    have hl1b : l1.length ≤ 16 := by rw [← hl1, List.length_map, List.length_take]; omega
    rw [hl1] at HGA HT
    have HL1 := Lib.hid hl1
    obtain ⟨n1, hn1⟩ : ∃ n1, l1.length = n1 := ⟨_, rfl⟩
    rw [hn1] at HGA
    have HN1 : Hid (l1.length ≤ 16) := Lib.hid hl1b
    have OA := Lib.hid HGA.out.o1
    have e1 := (SS3.out.en x hx16).1
    obtain ⟨wd, hwd⟩ : ∃ wd, wr.drew = wd := ⟨_, rfl⟩
    have HWD := Lib.hid hwd
    have GWD0 : Hid (GrownL (Value.slice A1 n1 c1).ownBlock.toList wr wd) := Lib.hid (by rw [← hwd]; exact (GrownL.refl _ _).drew)
    have GWD : Hid (GrownL (W.heap.size :: (Value.slice A1 n1 c1).ownBlock.toList) wr wd) := Lib.hid (GWD0.out.mono (by simp +contextual))
    obtain ⟨y, hy⟩ : ∃ y : Int, (E x : Int) = y := ⟨_, rfl⟩
    rw [hy] at e1 HT
    have e1d : wd.cell? ⟨w.heap.size + 1 + 1, x, none⟩ = some (.int .i64 y) := by rw [← hwd]; simpa using e1
    have y1 := HGA.out.c1
    have ne : w.heap.size + 1 + 1 ∉ W.heap.size :: (Value.slice A1 n1 c1).ownBlock.toList := fun hm => by
     rcases List.mem_cons.1 hm with h | h
     ·have := HS.out; omega
     ·have := (OA.out.lt _ (by simpa using h)).1; have := HWW.out; have := HS.out; omega
    have hx0 : (x : Int) < 16 := by omega
    have hx1 : (0 : Int) ≤ (x : Int) := by omega
    have y1d : wd.cell? ⟨W.heap.size, 0, none⟩ = some (.slice A1 n1 c1) := by rw [← hwd]; simpa using y1
    have z1d : wd.frozen? ⟨W.heap.size, 0, none⟩ = false := by rw [← hwd]; simpa using HGA.out.f1
    have OAD : Hid (OwnG encI 1 3 w2.heap.size (.slice A1 n1 c1) l1 wd) := Lib.hid (by rw [← hwd]; exact OA.out.grown (bs := []) ((GrownL.refl _ _).drew) (by simp))
    have HNB : Hid (∀ k ∈ W.heap.size :: (Value.slice A1 n1 c1).ownBlock.toList, w.heap.size + 3 ≤ k) := Lib.hid fun k hk => by
     rcases List.mem_cons.1 hk with h | h
     ·have := HS.out; omega
     ·have := (OA.out.lt _ (by simpa using h)).1; have := HWW.out; have := HS.out; omega
    clear hx hxl hl1 hn1 e1 y1 hwd hy
    rcases (by omega : y ≤ 1 ∨ 1 < y) with hE1 | hE1
    ·have HMIN : Hid (min y 1 = y) := Lib.hid (by omega)
     have hif : (if 1 < y then (1 : Int) else y) = y := if_neg (by omega)
     gi_wp2_with fail
     refine wpIn_region_held open_wide (S := GrownL (W.heap.size :: (Value.slice A1 n1 c1).ownBlock.toList) wr.drew) (by kernel_rfl) (by kernel_rfl) (GrownL.refl _ _) (fun J0 => ?_)
     rw [HWD.out] at J0 ⊢
     refine tw 0 40 J0 ?_ (hy := by intro w' hSw; have q0 := hSw.cell e1d ne; go_simp; try with_reducible rfl)
     try simp only [aS]
     refine tw 2 42 J0 ?_ (hy := by intro w' hSw; have q0 := hSw.cell e1d ne; go_simp; try with_reducible rfl)
     try simp only [aS]
     refine tw 3 43 J0 ?_ (hy := by intro w' hSw; have q0 := hSw.cell e1d ne; go_simp; try with_reducible rfl)
     try simp only [aS]
     refine tw 4 44 J0 ?_ (hy := by intro w' hSw; have q0 := hSw.cell e1d ne; go_simp; try with_reducible rfl)
     try simp only [aS]
     refine tw 5 45 J0 ?_ (hy := by intro w' hSw; have q0 := hSw.cell e1d ne; go_simp; try with_reducible rfl)
     try simp only [aS]
     refine wpAnyH_ready (rs := [1, 6]) (by kernel_rfl) (by simp) ?_
     refine AllReadyH.cons rfl (fun K hK => ?_) (AllReadyH.cons rfl (fun K hK => ?_) AllReadyH.nil)
     ·have q1 := y1d
      go_simp
      refine hK.out _ _ J0 (fun _ => ?_)
      clear hK K q1
      try simp only [aS]
      refine wpAnyH_ready (rs := [6]) (by kernel_rfl) (by simp) ?_
      refine AllReadyH.cons rfl (fun K hK => ?_) AllReadyH.nil
      go_simp
      have J1 : GrownL (W.heap.size :: (Value.slice A1 n1 c1).ownBlock.toList) wd (wd.alloc (.cells #[.int .i64 y] 3)) := GrownL.of_below ((Below.refl _ _).alloc (Nat.le_refl _) _)
      have y1a : (wd.alloc (.cells #[.int .i64 y] 3)).cell? ⟨W.heap.size, 0, none⟩ = some (.slice A1 n1 c1) := BelS.c ((Below.refl _ _).alloc (Nat.le_refl _) _) y1d
      have z1a : (wd.alloc (.cells #[.int .i64 y] 3)).frozen? ⟨W.heap.size, 0, none⟩ = false := (((Below.refl wd.heap.size wd).alloc (Nat.le_refl _) (.cells #[.int .i64 y] 3)).frozen (p := ⟨W.heap.size, 0, none⟩) (World.block_lt_of_cell? _ _ y1d)).trans z1d
      refine hK.out _ _ J1 (fun _ => ?_)
      clear hK K
      try simp only [aS]
      refine wpAnyH_ready (rs := [7]) (by kernel_rfl) (by simp) ?_
      refine AllReadyH.cons rfl (fun K hK => ?_) AllReadyH.nil
      refine step_appA rfl _ _ rfl w2.heap.size (.slice A1 n1 c1) l1 rfl (OAD.out.below ((Below.refl _ _).alloc (Nat.le_refl _) _)) (by have := HN1.out; omega) wd.heap.size (y) rfl (by simp [go_sem]) (by have := HGR.out.size; have := GWD.out.size; simp; omega) (fun v4 w4 ho4 g4 ha4 => ?_)
      have HO4 := Lib.hid ho4
      have HG4 := Lib.hid ((GWD0.out.trans (GrownL.of_below ((Below.refl _ _).alloc (Nat.le_refl _) _))).trans g4)
      have HA4 : Hid (v4.ownBlock = (Value.slice A1 n1 c1).ownBlock ∨ ∃ n, v4.ownBlock = some n ∧ wr.heap.size ≤ n) := Lib.hid (ha4.imp (fun h => h) (fun ⟨n, e, hn⟩ => ⟨n, e, by have := GWD.out.size; simp at hn; omega⟩))
      have hn4 : W.heap.size ∉ (Value.slice A1 n1 c1).ownBlock.toList := fun hm => by have := (OAD.out.lt W.heap.size (by simpa using hm)).1; have := HWW.out; omega
      have y4 : w4.cell? ⟨W.heap.size, 0, none⟩ = some (.slice A1 n1 c1) := g4.cell y1a hn4
      have z4 : w4.frozen? ⟨W.heap.size, 0, none⟩ = false := (World.frozen?_of_block (a := ⟨W.heap.size, 0, none⟩) (g4.block _ (World.block_lt_of_cell? _ _ y1a) hn4)).trans z1a
      have J2 : GrownL (W.heap.size :: (Value.slice A1 n1 c1).ownBlock.toList) wd w4 := J1.trans (g4.mono (by simp +contextual))
      obtain ⟨A4, c4, rfl, -⟩ := ho4.form
      obtain ⟨n4, hl4⟩ : ∃ n4, (l1 ++ [y]).length = n4 := ⟨_, rfl⟩
      rw [hl4] at HO4 HA4 ⊢
      clear ho4 g4 ha4 hn4 hl4
      try go_simp
      refine hK.out _ _ J2 (fun _ => ?_)
      clear hK K
      try simp only [aS]
      refine tw 8 48 J2 ?_
      try simp only [aS]
      refine wpAnyH_ready (rs := [9]) (by kernel_rfl) (by simp) ?_
      refine AllReadyH.cons rfl (fun K hK => ?_) AllReadyH.nil
      go_simp
      have J3 : GrownL (W.heap.size :: (Value.slice A1 n1 c1).ownBlock.toList) wd (w4.setCell ⟨W.heap.size, 0, none⟩ (.slice A4 n4 c4)) := J2.trans (GrownL.set w4 ⟨W.heap.size, 0, none⟩ _ (by simp))
      have HJ3 := Lib.hid (GWD.out.trans J3)
      refine hK.out _ _ J3 (fun _ => ?_)
      clear hK K
      try simp only [aS]
      refine heldN_done (by kernel_rfl) ?_ _
      clear J0 J1 J2 J3 y4 z4 y1a z1a y1d z1d
      gi_wp2_with fail
      go_roundw
      case rel => exact ⟨i + 1, by go_num, by omega, ⟨_, by rw [HT.out, HMIN.out]; exact HGA.out.app1 HG4.out HO4.out HA4.out⟩, SS3.out.grown HJ3.out HNB.out, HGR.out.newer HJ3.out (fun k hk => (OA.out.lt k (by simpa using hk)).1)⟩
      case measure => show nh - ((i : Int) + 1).toNat < nh - (i : Int).toNat; omega
     ·go_simp
      have J1 : GrownL (W.heap.size :: (Value.slice A1 n1 c1).ownBlock.toList) wd (wd.alloc (.cells #[.int .i64 y] 3)) := GrownL.of_below ((Below.refl _ _).alloc (Nat.le_refl _) _)
      have y1a : (wd.alloc (.cells #[.int .i64 y] 3)).cell? ⟨W.heap.size, 0, none⟩ = some (.slice A1 n1 c1) := BelS.c ((Below.refl _ _).alloc (Nat.le_refl _) _) y1d
      have z1a : (wd.alloc (.cells #[.int .i64 y] 3)).frozen? ⟨W.heap.size, 0, none⟩ = false := (((Below.refl wd.heap.size wd).alloc (Nat.le_refl _) (.cells #[.int .i64 y] 3)).frozen (p := ⟨W.heap.size, 0, none⟩) (World.block_lt_of_cell? _ _ y1d)).trans z1d
      refine hK.out _ _ J1 (fun _ => ?_)
      clear hK K
      try simp only [aS]
      refine wpAnyH_ready (rs := [1]) (by kernel_rfl) (by simp) ?_
      refine AllReadyH.cons rfl (fun K hK => ?_) AllReadyH.nil
      have q1 := y1a
      go_simp
      refine hK.out _ _ J1 (fun _ => ?_)
      clear hK K q1
      try simp only [aS]
      refine wpAnyH_ready (rs := [7]) (by kernel_rfl) (by simp) ?_
      refine AllReadyH.cons rfl (fun K hK => ?_) AllReadyH.nil
      refine step_appA rfl _ _ rfl w2.heap.size (.slice A1 n1 c1) l1 rfl (OAD.out.below ((Below.refl _ _).alloc (Nat.le_refl _) _)) (by have := HN1.out; omega) wd.heap.size (y) rfl (by simp [go_sem]) (by have := HGR.out.size; have := GWD.out.size; simp; omega) (fun v4 w4 ho4 g4 ha4 => ?_)
      have HO4 := Lib.hid ho4
      have HG4 := Lib.hid ((GWD0.out.trans (GrownL.of_below ((Below.refl _ _).alloc (Nat.le_refl _) _))).trans g4)
      have HA4 : Hid (v4.ownBlock = (Value.slice A1 n1 c1).ownBlock ∨ ∃ n, v4.ownBlock = some n ∧ wr.heap.size ≤ n) := Lib.hid (ha4.imp (fun h => h) (fun ⟨n, e, hn⟩ => ⟨n, e, by have := GWD.out.size; simp at hn; omega⟩))
      have hn4 : W.heap.size ∉ (Value.slice A1 n1 c1).ownBlock.toList := fun hm => by have := (OAD.out.lt W.heap.size (by simpa using hm)).1; have := HWW.out; omega
      have y4 : w4.cell? ⟨W.heap.size, 0, none⟩ = some (.slice A1 n1 c1) := g4.cell y1a hn4
      have z4 : w4.frozen? ⟨W.heap.size, 0, none⟩ = false := (World.frozen?_of_block (a := ⟨W.heap.size, 0, none⟩) (g4.block _ (World.block_lt_of_cell? _ _ y1a) hn4)).trans z1a
      have J2 : GrownL (W.heap.size :: (Value.slice A1 n1 c1).ownBlock.toList) wd w4 := J1.trans (g4.mono (by simp +contextual))
      obtain ⟨A4, c4, rfl, -⟩ := ho4.form
      obtain ⟨n4, hl4⟩ : ∃ n4, (l1 ++ [y]).length = n4 := ⟨_, rfl⟩
      rw [hl4] at HO4 HA4 ⊢
      clear ho4 g4 ha4 hn4 hl4
      try go_simp
      refine hK.out _ _ J2 (fun _ => ?_)
      clear hK K
      try simp only [aS]
      refine tw 8 48 J2 ?_
      try simp only [aS]
      refine wpAnyH_ready (rs := [9]) (by kernel_rfl) (by simp) ?_
      refine AllReadyH.cons rfl (fun K hK => ?_) AllReadyH.nil
      go_simp
      have J3 : GrownL (W.heap.size :: (Value.slice A1 n1 c1).ownBlock.toList) wd (w4.setCell ⟨W.heap.size, 0, none⟩ (.slice A4 n4 c4)) := J2.trans (GrownL.set w4 ⟨W.heap.size, 0, none⟩ _ (by simp))
      have HJ3 := Lib.hid (GWD.out.trans J3)
      refine hK.out _ _ J3 (fun _ => ?_)
      clear hK K
      try simp only [aS]
      refine heldN_done (by kernel_rfl) ?_ _
      clear J0 J1 J2 J3 y4 z4 y1a z1a y1d z1d
      gi_wp2_with fail
      go_roundw
      case rel => exact ⟨i + 1, by go_num, by omega, ⟨_, by rw [HT.out, HMIN.out]; exact HGA.out.app1 HG4.out HO4.out HA4.out⟩, SS3.out.grown HJ3.out HNB.out, HGR.out.newer HJ3.out (fun k hk => (OA.out.lt k (by simpa using hk)).1)⟩
      case measure => show nh - ((i : Int) + 1).toNat < nh - (i : Int).toNat; omega
    ·have HMIN : Hid (min y 1 = 1) := Lib.hid (by omega)
     gi_wp2_with fail
     refine wpIn_region_held open_wide (S := GrownL (W.heap.size :: (Value.slice A1 n1 c1).ownBlock.toList) wr.drew) (by kernel_rfl) (by kernel_rfl) (GrownL.refl _ _) (fun J0 => ?_)
     rw [HWD.out] at J0 ⊢
     refine tw 0 40 J0 ?_ (hy := by intro w' hSw; have q0 := hSw.cell e1d ne; go_simp; try with_reducible rfl)
     try simp only [aS]
     refine tw 2 42 J0 ?_ (hy := by intro w' hSw; have q0 := hSw.cell e1d ne; go_simp; try with_reducible rfl)
     try simp only [aS]
     refine tw 3 43 J0 ?_ (hy := by intro w' hSw; have q0 := hSw.cell e1d ne; go_simp; try with_reducible rfl)
     try simp only [aS]
     refine tw 4 44 J0 ?_ (hy := by intro w' hSw; have q0 := hSw.cell e1d ne; go_simp; try with_reducible rfl)
     try simp only [aS]
     refine tw 5 45 J0 ?_ (hy := by intro w' hSw; have q0 := hSw.cell e1d ne; go_simp; try with_reducible rfl)
     try simp only [aS]
     refine wpAnyH_ready (rs := [1, 6]) (by kernel_rfl) (by simp) ?_
     refine AllReadyH.cons rfl (fun K hK => ?_) (AllReadyH.cons rfl (fun K hK => ?_) AllReadyH.nil)
     ·have q1 := y1d
      go_simp
      refine hK.out _ _ J0 (fun _ => ?_)
      clear hK K q1
      try simp only [aS]
      refine wpAnyH_ready (rs := [6]) (by kernel_rfl) (by simp) ?_
      refine AllReadyH.cons rfl (fun K hK => ?_) AllReadyH.nil
      go_simp
      have J1 : GrownL (W.heap.size :: (Value.slice A1 n1 c1).ownBlock.toList) wd (wd.alloc (.cells #[.int .i64 1] 3)) := GrownL.of_below ((Below.refl _ _).alloc (Nat.le_refl _) _)
      have y1a : (wd.alloc (.cells #[.int .i64 1] 3)).cell? ⟨W.heap.size, 0, none⟩ = some (.slice A1 n1 c1) := BelS.c ((Below.refl _ _).alloc (Nat.le_refl _) _) y1d
      have z1a : (wd.alloc (.cells #[.int .i64 1] 3)).frozen? ⟨W.heap.size, 0, none⟩ = false := (((Below.refl wd.heap.size wd).alloc (Nat.le_refl _) (.cells #[.int .i64 1] 3)).frozen (p := ⟨W.heap.size, 0, none⟩) (World.block_lt_of_cell? _ _ y1d)).trans z1d
      refine hK.out _ _ J1 (fun _ => ?_)
      clear hK K
      try simp only [aS]
      refine wpAnyH_ready (rs := [7]) (by kernel_rfl) (by simp) ?_
      refine AllReadyH.cons rfl (fun K hK => ?_) AllReadyH.nil
      refine step_appA rfl _ _ rfl w2.heap.size (.slice A1 n1 c1) l1 rfl (OAD.out.below ((Below.refl _ _).alloc (Nat.le_refl _) _)) (by have := HN1.out; omega) wd.heap.size (1) rfl (by simp [go_sem]) (by have := HGR.out.size; have := GWD.out.size; simp; omega) (fun v4 w4 ho4 g4 ha4 => ?_)
      have HO4 := Lib.hid ho4
      have HG4 := Lib.hid ((GWD0.out.trans (GrownL.of_below ((Below.refl _ _).alloc (Nat.le_refl _) _))).trans g4)
      have HA4 : Hid (v4.ownBlock = (Value.slice A1 n1 c1).ownBlock ∨ ∃ n, v4.ownBlock = some n ∧ wr.heap.size ≤ n) := Lib.hid (ha4.imp (fun h => h) (fun ⟨n, e, hn⟩ => ⟨n, e, by have := GWD.out.size; simp at hn; omega⟩))
      have hn4 : W.heap.size ∉ (Value.slice A1 n1 c1).ownBlock.toList := fun hm => by have := (OAD.out.lt W.heap.size (by simpa using hm)).1; have := HWW.out; omega
      have y4 : w4.cell? ⟨W.heap.size, 0, none⟩ = some (.slice A1 n1 c1) := g4.cell y1a hn4
      have z4 : w4.frozen? ⟨W.heap.size, 0, none⟩ = false := (World.frozen?_of_block (a := ⟨W.heap.size, 0, none⟩) (g4.block _ (World.block_lt_of_cell? _ _ y1a) hn4)).trans z1a
      have J2 : GrownL (W.heap.size :: (Value.slice A1 n1 c1).ownBlock.toList) wd w4 := J1.trans (g4.mono (by simp +contextual))
      obtain ⟨A4, c4, rfl, -⟩ := ho4.form
      obtain ⟨n4, hl4⟩ : ∃ n4, (l1 ++ [1]).length = n4 := ⟨_, rfl⟩
      rw [hl4] at HO4 HA4 ⊢
      clear ho4 g4 ha4 hn4 hl4
      try go_simp
      refine hK.out _ _ J2 (fun _ => ?_)
      clear hK K
      try simp only [aS]
      refine tw 8 48 J2 ?_
      try simp only [aS]
      refine wpAnyH_ready (rs := [9]) (by kernel_rfl) (by simp) ?_
      refine AllReadyH.cons rfl (fun K hK => ?_) AllReadyH.nil
      go_simp
      have J3 : GrownL (W.heap.size :: (Value.slice A1 n1 c1).ownBlock.toList) wd (w4.setCell ⟨W.heap.size, 0, none⟩ (.slice A4 n4 c4)) := J2.trans (GrownL.set w4 ⟨W.heap.size, 0, none⟩ _ (by simp))
      have HJ3 := Lib.hid (GWD.out.trans J3)
      refine hK.out _ _ J3 (fun _ => ?_)
      clear hK K
      try simp only [aS]
      refine heldN_done (by kernel_rfl) ?_ _
      clear J0 J1 J2 J3 y4 z4 y1a z1a y1d z1d
      gi_wp2_with fail
      go_roundw
      case rel => exact ⟨i + 1, by go_num, by omega, ⟨_, by rw [HT.out, HMIN.out]; exact HGA.out.app1 HG4.out HO4.out HA4.out⟩, SS3.out.grown HJ3.out HNB.out, HGR.out.newer HJ3.out (fun k hk => (OA.out.lt k (by simpa using hk)).1)⟩
      case measure => show nh - ((i : Int) + 1).toNat < nh - (i : Int).toNat; omega
     ·go_simp
      have J1 : GrownL (W.heap.size :: (Value.slice A1 n1 c1).ownBlock.toList) wd (wd.alloc (.cells #[.int .i64 1] 3)) := GrownL.of_below ((Below.refl _ _).alloc (Nat.le_refl _) _)
      have y1a : (wd.alloc (.cells #[.int .i64 1] 3)).cell? ⟨W.heap.size, 0, none⟩ = some (.slice A1 n1 c1) := BelS.c ((Below.refl _ _).alloc (Nat.le_refl _) _) y1d
      have z1a : (wd.alloc (.cells #[.int .i64 1] 3)).frozen? ⟨W.heap.size, 0, none⟩ = false := (((Below.refl wd.heap.size wd).alloc (Nat.le_refl _) (.cells #[.int .i64 1] 3)).frozen (p := ⟨W.heap.size, 0, none⟩) (World.block_lt_of_cell? _ _ y1d)).trans z1d
      refine hK.out _ _ J1 (fun _ => ?_)
      clear hK K
      try simp only [aS]
      refine wpAnyH_ready (rs := [1]) (by kernel_rfl) (by simp) ?_
      refine AllReadyH.cons rfl (fun K hK => ?_) AllReadyH.nil
      have q1 := y1a
      go_simp
      refine hK.out _ _ J1 (fun _ => ?_)
      clear hK K q1
      try simp only [aS]
      refine wpAnyH_ready (rs := [7]) (by kernel_rfl) (by simp) ?_
      refine AllReadyH.cons rfl (fun K hK => ?_) AllReadyH.nil
      refine step_appA rfl _ _ rfl w2.heap.size (.slice A1 n1 c1) l1 rfl (OAD.out.below ((Below.refl _ _).alloc (Nat.le_refl _) _)) (by have := HN1.out; omega) wd.heap.size (1) rfl (by simp [go_sem]) (by have := HGR.out.size; have := GWD.out.size; simp; omega) (fun v4 w4 ho4 g4 ha4 => ?_)
      have HO4 := Lib.hid ho4
      have HG4 := Lib.hid ((GWD0.out.trans (GrownL.of_below ((Below.refl _ _).alloc (Nat.le_refl _) _))).trans g4)
      have HA4 : Hid (v4.ownBlock = (Value.slice A1 n1 c1).ownBlock ∨ ∃ n, v4.ownBlock = some n ∧ wr.heap.size ≤ n) := Lib.hid (ha4.imp (fun h => h) (fun ⟨n, e, hn⟩ => ⟨n, e, by have := GWD.out.size; simp at hn; omega⟩))
      have hn4 : W.heap.size ∉ (Value.slice A1 n1 c1).ownBlock.toList := fun hm => by have := (OAD.out.lt W.heap.size (by simpa using hm)).1; have := HWW.out; omega
      have y4 : w4.cell? ⟨W.heap.size, 0, none⟩ = some (.slice A1 n1 c1) := g4.cell y1a hn4
      have z4 : w4.frozen? ⟨W.heap.size, 0, none⟩ = false := (World.frozen?_of_block (a := ⟨W.heap.size, 0, none⟩) (g4.block _ (World.block_lt_of_cell? _ _ y1a) hn4)).trans z1a
      have J2 : GrownL (W.heap.size :: (Value.slice A1 n1 c1).ownBlock.toList) wd w4 := J1.trans (g4.mono (by simp +contextual))
      obtain ⟨A4, c4, rfl, -⟩ := ho4.form
      obtain ⟨n4, hl4⟩ : ∃ n4, (l1 ++ [1]).length = n4 := ⟨_, rfl⟩
      rw [hl4] at HO4 HA4 ⊢
      clear ho4 g4 ha4 hn4 hl4
      try go_simp
      refine hK.out _ _ J2 (fun _ => ?_)
      clear hK K
      try simp only [aS]
      refine tw 8 48 J2 ?_
      try simp only [aS]
      refine wpAnyH_ready (rs := [9]) (by kernel_rfl) (by simp) ?_
      refine AllReadyH.cons rfl (fun K hK => ?_) AllReadyH.nil
      go_simp
      have J3 : GrownL (W.heap.size :: (Value.slice A1 n1 c1).ownBlock.toList) wd (w4.setCell ⟨W.heap.size, 0, none⟩ (.slice A4 n4 c4)) := J2.trans (GrownL.set w4 ⟨W.heap.size, 0, none⟩ _ (by simp))
      have HJ3 := Lib.hid (GWD.out.trans J3)
      refine hK.out _ _ J3 (fun _ => ?_)
      clear hK K
      try simp only [aS]
      refine heldN_done (by kernel_rfl) ?_ _
      clear J0 J1 J2 J3 y4 z4 y1a z1a y1d z1d
      gi_wp2_with fail
      go_roundw
      case rel => exact ⟨i + 1, by go_num, by omega, ⟨_, by rw [HT.out, HMIN.out]; exact HGA.out.app1 HG4.out HO4.out HA4.out⟩, SS3.out.grown HJ3.out HNB.out, HGR.out.newer HJ3.out (fun k hk => (OA.out.lt k (by simpa using hk)).1)⟩
      case measure => show nh - ((i : Int) + 1).toNat < nh - (i : Int).toNat; omega
   ·have hie : i = nh := by omega
    subst hie
    have HTA : Hid (((headsN ws).take i).map (sgH E) = (headsN ws).map (sgH E)) := Lib.hid (by rw [List.take_of_length_le (by have := HNH.out; simp [headsL] at this; omega)])
    rw [HTA.out] at HGA
    obtain ⟨l1, hl1⟩ : ∃ l1, (headsN ws).map (sgH E) = l1 := ⟨_, rfl⟩
    rw [hl1] at HGA
    obtain ⟨n1, hn1⟩ : ∃ n1, l1.length = n1 := ⟨_, rfl⟩
    rw [hn1] at HGA
    have HL1 := Lib.hid hl1
    have MR : Hid (wr.heap[W0.heap.size]? = some (.deferred (some []))) := Lib.hid ((HGR.out.block W0.heap.size (Array.getElem?_eq_some_iff.1 M2.out).1 (by have := HWZ.out; simp; omega)).trans M2.out)
    have HWB : Hid (w2.heap.size ≤ wr.heap.size) := Lib.hid HGR.out.size
    have t0 := SS3.out.wk
    clear hl1 hn1 HTA M2
    gi_wp2_with fail
    refine ⟨trivial, (callsIn_wide.2 (places_any A ws.length c _)).mono ?_⟩
    rintro e w9 ⟨rfl, rfl⟩
    obtain ⟨Wb, hWb⟩ : ∃ Wb, wr.alloc (.cells #[.slice A ws.length c] 24) = Wb := ⟨_, rfl⟩
    have hzb : Wb.heap.size = wr.heap.size + 1 := by rw [← hWb]; simp
    have bwb : Below wr.heap.size wr Wb := by rw [← hWb]; exact (Below.refl _ _).alloc (Nat.le_refl _) _
    have HZB := Lib.hid hzb
    have J00 : Hid (SgS w (.slice A ws.length c) E Wb ∧ (∃ u2 u3, G3 W.heap.size w2.heap.size (.slice A1 n1 c1) u2 u3 l1 (([] : List Pl).map (sgO E)) (([] : List Pl).map (sgR E)) Wb ∧ (∀ b, u2.ownBlock = some b → Wb.heap.size + 2 ≤ b) ∧ (∀ b, u3.ownBlock = some b → Wb.heap.size + 2 ≤ b)) ∧ Wb.cell? ⟨wr.heap.size, 0, none⟩ = some (.slice A ws.length c) ∧ Wb.heap[W0.heap.size]? = some (.deferred (some []))) := Lib.hid ⟨SS3.out.below bwb, ⟨_, _, HGA.out.grown (GrownL.of_below (bs := []) bwb) (by simp) (by simp), (fun b e => by cases e), (fun b e => by cases e)⟩, by rw [← hWb]; simp [go_sem], (bwb.block _ (Array.getElem?_eq_some_iff.1 MR.out).1).trans MR.out⟩
    have HU1 : Hid (∀ b, (Value.slice A1 n1 c1).ownBlock = some b → b < Wb.heap.size) := Lib.hid fun b hb => by have := (HGA.out.o1.lt b hb).2; omega
    clear t0 hzb bwb
    gi_wp2_with fail
    try rw [hWb]
    refine wpIn_rangeP (gf := 132) (lb := #[.pointer (some ⟨wr.heap.size, 0, none⟩)]) rfl enters_places1
     (placesP_seq w Wb wr.heap.size A ws.length c ws H.out (by have := HW.out.tot; omega) (by have := HW.out.len; omega)) (Below.refl _ _) (fun _ => rfl)
     (fun p W' => SgS w (.slice A ws.length c) E W' ∧ (∃ u2 u3, G3 W.heap.size w2.heap.size (.slice A1 n1 c1) u2 u3 l1 (p.map (sgO E)) (p.map (sgR E)) W' ∧ (∀ b, u2.ownBlock = some b → Wb.heap.size + 2 ≤ b) ∧ (∀ b, u3.ownBlock = some b → Wb.heap.size + 2 ≤ b)) ∧ W'.cell? ⟨wr.heap.size, 0, none⟩ = some (.slice A ws.length c) ∧ W'.heap[W0.heap.size]? = some (.deferred (some []))) (fun _ _ _ => False) (fun _ _ h => ⟨h.1.bel, h.2.2.1⟩) ?h0b ?hIb (fun _ _ _ _ h _ => h) ?roundb ?doneb (fun _ _ _ _ h _ => h.elim)
    case h0b =>
     intro W' hb hsz
     obtain ⟨a1, ⟨u2, u3, a2, b2, b3⟩, a3, a4⟩ := J00.out
     exact ⟨a1.below hb, ⟨u2, u3, a2.grown (GrownL.of_below (bs := []) hb) (by simp) (by simp), b2, b3⟩, BelS.c hb a3, (hb.block _ (Array.getElem?_eq_some_iff.1 a4).1).trans a4⟩
    case hIb =>
     rintro p Wx Wy ⟨a1, ⟨u2, u3, a2, b2, b3⟩, a3, a4⟩ hg
     have nb : ∀ k, k < Wb.heap.size → k ∉ [Wb.heap.size, Wb.heap.size + 1] := fun k hk hm => by simp at hm; omega
     have q1 := HZB.out
     have q2 := HWB.out
     have q3 := HWW.out
     have q4 := HS.out
     have q5 := HWZ.out
     exact ⟨a1.grown hg (fun b hb => by simp at hb; omega), ⟨u2, u3, a2.grown_ hg (nb _ (by omega)) (fun b hb => nb _ (HU1.out b hb)) (fun b hb hm => by have := b2 b hb; simp at hm; omega) (fun b hb hm => by have := b3 b hb; simp at hm; omega), b2, b3⟩, hg.cell a3 (nb _ (by show wr.heap.size < _; omega)), (hg.block _ (Array.getElem?_eq_some_iff.1 a4).1 (nb _ (by omega))).trans a4⟩
    case roundb =>
     rintro pre x W' ⟨a1, ⟨u2, u3, a2, ob2, ob3⟩, a3, a4⟩ hsz hsp
     have HA1 := Lib.hid a1
     have HA2 := Lib.hid a2
     have HA3 := Lib.hid a3
     have HA4 := Lib.hid a4
     have OB2 := Lib.hid ob2
     have OB3 := Lib.hid ob3
     obtain ⟨A2, c2', rfl, -⟩ := a2.o2.form
     obtain ⟨A3', c3', rfl, -⟩ := a2.o3.form
     obtain ⟨n, hxn, hpre, hnl, hnt⟩ := sp_next hsp
     have hlen2 : (pre.map (sgO E)).length ≤ 60 := by rw [List.length_map, ← hnl]; have := HW.out.tot; omega
     have hlen3 : (pre.map (sgR E)).length ≤ 60 := by rw [List.length_map, ← hnl]; have := HW.out.tot; omega
     clear a1 a2 a3 a4 hsp hpre hnl ob2 ob3
     obtain ⟨xa, xc, xn, x⟩ := x
     have hc16 : xc < 16 := by
      obtain ⟨-, os, h1, -, -⟩ := allP_inv hxn
      have h9 : xc < ws.length := (List.getElem?_eq_some_iff.1 h1).1
      have := HW.out.len
      omega
     have HMO : Hid ((pre ++ [(⟨xa, xc, xn, x⟩ : Pl)]).map (sgO E) = pre.map (sgO E) ++ [sgO E ⟨xa, xc, xn, x⟩]) := Lib.hid (by simp)
     have HMR : Hid ((pre ++ [(⟨xa, xc, xn, x⟩ : Pl)]).map (sgR E) = pre.map (sgR E) ++ [sgR E ⟨xa, xc, xn, x⟩]) := Lib.hid (by simp)
     obtain ⟨l2, hl2⟩ : ∃ l2, pre.map (sgO E) = l2 := ⟨_, rfl⟩
     obtain ⟨l3, hl3⟩ : ∃ l3, pre.map (sgR E) = l3 := ⟨_, rfl⟩
     rw [hl2] at HA2 HMO OB2 hlen2
     rw [hl3] at HA2 HMR OB3 hlen3
     obtain ⟨n2, hn2⟩ : ∃ n2, l2.length = n2 := ⟨_, rfl⟩
     obtain ⟨n3, hn3⟩ : ∃ n3, l3.length = n3 := ⟨_, rfl⟩
     rw [hn2] at HA2 OB2 hlen2
     rw [hn3] at HA2 OB3 hlen3
     have HN2 := Lib.hid hn2
     have HN3 := Lib.hid hn3
     have hE60 : (E xc : Int) ≤ 60 := by have h1 := endE_le ws id xc; rw [HE.out] at h1; have := HW.out.tot; omega
     clear hl2 hl3 hn2 hn3 hxn hnt
     dsimp only [encP]
     gi_wp2_with fail
     refine ⟨Keeps.of_below ((Below.refl _ _).alloc (Nat.le_refl _) _), fun Wq hg2 hlq => ?_⟩
     obtain ⟨hP, hg, hz2⟩ := p_cells (x := x) hg2 (by have := HZB.out; omega)
     have nb : ∀ k, k < Wb.heap.size → k ∉ [Wb.heap.size + 1] := fun k hk hm => by simp at hm; omega
     have q1 := HZB.out
     have q2 := HWB.out
     have q3 := HWW.out
     have q4 := HS.out
     have q5 := HWZ.out
     obtain ⟨W2, hW2⟩ : ∃ W2, Wq = W2 := ⟨_, rfl⟩
     subst hW2
     have B1 := HA1.out.grown hg (fun b hb => by simp at hb; omega)
     have B2 := HA2.out.grown_ hg (nb _ (by omega)) (fun b hb => nb _ (HU1.out b hb)) (fun b hb hm => by have := OB2.out b hb; simp at hm; omega) (fun b hb hm => by have := OB3.out b hb; simp at hm; omega)
     have B3 := hg.cell HA3.out (nb _ (by show wr.heap.size < _; omega))
     have B4 := (hg.block _ (Array.getElem?_eq_some_iff.1 HA4.out).1 (nb _ (by omega))).trans HA4.out
     obtain ⟨W2a, hW2a⟩ : ∃ W2a, Wq.drew = W2a := ⟨_, rfl⟩
     obtain ⟨W3, hW3⟩ : ∃ W3, W2a.drew = W3 := ⟨_, rfl⟩
     have g3 : GrownL [] Wq W3 := by rw [← hW3, ← hW2a]; exact (GrownL.refl _ _).drew.drew
     have HG1 := Lib.hid (B1.grown g3 (by simp))
     have HG3 := Lib.hid (B2.grown g3 (by simp) (by simp))
     have HGK := Lib.hid (g3.cell B3 (by simp))
     have HGM := Lib.hid ((g3.block _ (Array.getElem?_eq_some_iff.1 B4).1 (by simp)).trans B4)
     have HZ3 : Hid (Wb.heap.size + 2 ≤ W3.heap.size) := Lib.hid (by have := g3.size; omega)
     have HK3 : Hid (Keeps [Wb.heap.size, Wb.heap.size + 1] Wq W3) := Lib.hid (Keeps.of_grown g3 (by simp))
     have FIN : Hid (∀ (A5 : Option Addr) (n5 c5 : Nat) (v7 : Value) (W6 W7 : World) (o r : Int), GrownL (W.heap.size :: (Value.slice A2 n2 c2').ownBlock.toList) W3 W6 → GrownL (W.heap.size :: (Value.slice A3' n3 c3').ownBlock.toList) W6 W7 → ((Value.slice A5 n5 c5).ownBlock = (Value.slice A2 n2 c2').ownBlock ∨ ∃ n, (Value.slice A5 n5 c5).ownBlock = some n ∧ W3.heap.size ≤ n) → (v7.ownBlock = (Value.slice A3' n3 c3').ownBlock ∨ ∃ n, v7.ownBlock = some n ∧ W6.heap.size ≤ n) → sgO E ⟨xa, xc, xn, x⟩ = o → sgR E ⟨xa, xc, xn, x⟩ = r → G3 W.heap.size w2.heap.size (.slice A1 n1 c1) (.slice A5 n5 c5) v7 l1 (l2 ++ [o]) (l3 ++ [r]) W7 →
       Keeps [Wb.heap.size, Wb.heap.size + 1] Wq W7 ∧ SgS w (.slice A ws.length c) E W7 ∧ (∃ u2 u3, G3 W.heap.size w2.heap.size (.slice A1 n1 c1) u2 u3 l1 ((pre ++ [(⟨xa, xc, xn, x⟩ : Pl)]).map (sgO E)) ((pre ++ [(⟨xa, xc, xn, x⟩ : Pl)]).map (sgR E)) W7 ∧ (∀ b, u2.ownBlock = some b → Wb.heap.size + 2 ≤ b) ∧ (∀ b, u3.ownBlock = some b → Wb.heap.size + 2 ≤ b)) ∧ W7.cell? ⟨wr.heap.size, 0, none⟩ = some (.slice A ws.length c) ∧ W7.heap[W0.heap.size]? = some (.deferred (some []))) := Lib.hid (by
      intro A5 n5 c5 v7 W6 W7 o r g6 g7 at5 at7 ho hr hx
      have z3 := HZ3.out
      have z6 := g6.size
      have m2 : ∀ k ∈ W.heap.size :: (Value.slice A2 n2 c2').ownBlock.toList, k = W.heap.size ∨ Wb.heap.size + 2 ≤ k := fun k hk => by
       rcases List.mem_cons.1 hk with h | h
       ·exact .inl h
       ·exact .inr (OB2.out k (by simpa using h))
      have m3 : ∀ k ∈ W.heap.size :: (Value.slice A3' n3 c3').ownBlock.toList, k = W.heap.size ∨ Wb.heap.size + 2 ≤ k := fun k hk => by
       rcases List.mem_cons.1 hk with h | h
       ·exact .inl h
       ·exact .inr (OB3.out k (by simpa using h))
      refine ⟨(HK3.out.trans (Keeps.of_grown g6 (fun o ho hm => by have := m2 o hm; simp at ho; omega))).trans (Keeps.of_grown g7 (fun o ho hm => by have := m3 o hm; simp at ho; omega)), (HG1.out.grown g6 (fun k hk => by have := m2 k hk; omega)).grown g7 (fun k hk => by have := m3 k hk; omega), ⟨_, _, by rw [HMO.out, HMR.out, ho, hr]; exact hx, fun b hb => ?_, fun b hb => ?_⟩, g7.cell (g6.cell HGK.out (fun hm => by have := m2 _ hm; simp at this; omega)) (fun hm => by have := m3 _ hm; simp at this; omega), ?_⟩
      ·rcases at5 with h | ⟨n, h, hn⟩
       ·exact OB2.out b (h ▸ hb)
       ·rw [h] at hb; cases hb; omega
      ·rcases at7 with h | ⟨n, h, hn⟩
       ·exact OB3.out b (h ▸ hb)
       ·rw [h] at hb; cases hb; omega
      ·have k6 := (g6.block W0.heap.size (Array.getElem?_eq_some_iff.1 HGM.out).1 (fun hm => by have := m2 _ hm; omega)).trans HGM.out
       exact (g7.block W0.heap.size (Array.getElem?_eq_some_iff.1 k6).1 (fun hm => by have := m3 _ hm; omega)).trans k6)
     have p1 := hP.c
     have p2 := hP.n
     simp only at p1 p2
     have e1 := (B1.en xc hc16).1
     obtain ⟨y, hy⟩ : ∃ y : Int, (E xc : Int) = y := ⟨_, rfl⟩
     rw [hy] at e1 hE60
     have hy0 : 0 ≤ y := by omega
     have HY := Lib.hid hy
     have p1a : W2a.cell? ⟨W'.heap.size, 1, none⟩ = some (.int .i64 xc) := by rw [← hW2a]; simpa using p1
     have p2a : W2a.cell? ⟨W'.heap.size, 2, none⟩ = some (.int .i64 xn) := by rw [← hW2a]; simpa using p2
     have e1a : W2a.cell? ⟨w.heap.size + 1 + 1, xc, none⟩ = some (.int .i64 y) := by rw [← hW2a]; simpa using e1
     have x2c := HG3.out.c2
     have R2 : Hid (W3.ownsRow w2.heap.size 3 1 (.slice A2 n2 c2') n2 (l2.flatMap encI)) := Lib.hid (by have := HG3.out.o2; unfold OwnG at this; rwa [HN2.out] at this)
     have hbs3 : w2.heap.size ≤ W3.heap.size := by have := HZ3.out; omega
     have hxc0 : (xc : Int) < 16 := by omega
     have hxc1 : (0 : Int) ≤ (xc : Int) := by omega
     have hwy : IntKind.i64.wrap (y - 1) = y - 1 := IntWalk.i64_in _ (by omega)
     have HW2a := Lib.hid hW2a
     have HW3 := Lib.hid hW3
     clear hP hg hz2 hg2 hlq nb B1 B2 B3 B4 g3 hW2a hW3 hy HA1 HA2 HA3 HA4 q1 q2 q3 q4 q5
     rcases (by omega : ((xn : Int) < y ∧ (xn : Int) = y - 1) ∨ ((xn : Int) < y ∧ (xn : Int) ≠ y - 1) ∨ (y ≤ (xn : Int) ∧ (xn : Int) ≠ y - 1)) with ⟨h1, h2⟩ | ⟨h1, h2⟩ | ⟨h1, h2⟩
     ·have h2b : ((xn : Int) == y - 1) = true := by rw [beq_iff_eq]; exact h2
      have HCC := Lib.hid (And.intro h1 h2)
      clear h2
      gi_wp2_with fail
      refine wpIn_region_held (open_round _) (S := BelS Wq) (by kernel_rfl) (by kernel_rfl) (BelS.drew0 _) (fun J0 => ?_)
      have KK1 := Lib.hid fun (w_ : World) (hSw : BelS _ w_) => And.intro (hSw.c p1) (And.intro (hSw.c p2) (hSw.c e1))
      refine tk KK1 0 54 J0 ?_
      try simp only [aS]
      refine tk KK1 1 55 J0 ?_
      try simp only [aS]
      refine tk KK1 2 56 J0 ?_
      try simp only [aS]
      refine tk KK1 3 57 J0 ?_
      try simp only [aS]
      refine tk KK1 4 58 J0 ?_
      try simp only [aS]
      refine tk KK1 5 59 J0 ?_
      try simp only [aS]
      refine tk KK1 6 60 J0 ?_
      try simp only [aS]
      refine heldN_done (by kernel_rfl) ?_ _
      rw [HW2a.out]
      clear J0
      gi_wp2_with fail
      refine wpIn_region_held (open_round _) (S := BelS W2a) (by kernel_rfl) (by kernel_rfl) (BelS.drew0 _) (fun J0 => ?_)
      have KK2 := Lib.hid fun (w_ : World) (hSw : BelS _ w_) => And.intro (hSw.c p1a) (And.intro (hSw.c p2a) (hSw.c e1a))
      refine tk KK2 0 61 J0 ?_
      try simp only [aS]
      refine tk KK2 1 62 J0 ?_
      try simp only [aS]
      refine tk KK2 2 63 J0 ?_
      try simp only [aS]
      refine tk KK2 3 64 J0 ?_
      try simp only [aS]
      refine tk KK2 4 65 J0 ?_
      try simp only [aS]
      refine tk KK2 5 66 J0 ?_
      try simp only [aS]
      refine tk KK2 6 67 J0 ?_
      try simp only [aS]
      refine tk KK2 7 68 J0 ?_
      try simp only [aS]
      refine heldN_done (by kernel_rfl) ?_ _
      rw [HW3.out]
      clear J0
      have HSO : Hid (sgO E ⟨xa, xc, xn, x⟩ = 1) := Lib.hid (by unfold sgO; simp only; rw [HY.out]; have := HCC.out; split <;> (try split) <;> omega)
      have HSR : Hid (sgR E ⟨xa, xc, xn, x⟩ = -1) := Lib.hid (by unfold sgR; simp only; rw [HY.out]; have := HCC.out; split <;> (try split) <;> omega)
      gi_wp2_with (gi_at_builtin; refine wpListIn_append_own_at _ rfl _ _ 25 rfl w2.heap.size 3 i0 (.int .i64 0) 1 8 Try.underlying25 hz0 hj0 hj1 hj2 rfl (by decide) _ n2 _ rfl (R2.out.alloc _) ⟨W3.heap.size, 0, none⟩ 1 1 [.int .i64 (1)] rfl rfl (fun i u hi => one_news W3 (.int .i64 (1)) 3 i u hi) (fun u hu => one_one (1) u hu) ?c3a ?c4a ?c5a ?_)
      case c3a => unfold maxLen; omega
      case c4a => omega
      case c5a => first | (simp <;> omega) | omega
      intro v5 w5 hown5 hgrow5 _ hat5
      have O5 : Hid (OwnG encI 1 3 w2.heap.size v5 (l2 ++ [1]) w5) := Lib.hid (by unfold OwnG; rw [List.flatMap_append, List.length_append, HN2.out]; exact hown5)
      have g5 := (GrownL.of_below ((Below.refl W3.heap.size W3).alloc (Nat.le_refl _) (.cells #[.int .i64 _] 3))).trans (GrownL.of_row hgrow5)
      have GG5 := Lib.hid g5
      have AT5 : Hid (v5.ownBlock = (Value.slice A2 n2 c2').ownBlock ∨ ∃ n, v5.ownBlock = some n ∧ W3.heap.size ≤ n) := Lib.hid (hat5.imp (fun h => h) (fun h => ⟨_, h, by simp⟩))
      have HX5 := Lib.hid (HG3.out.app2 GG5.out O5.out AT5.out)
      obtain ⟨A5, c5, rfl, -⟩ := O5.out.form
      obtain ⟨n5, hl5⟩ : ∃ n5, (l2 ++ [1]).length = n5 := ⟨_, rfl⟩
      rw [hl5] at HX5 O5 AT5 ⊢
      have hn5 : W.heap.size ∉ (Value.slice A2 n2 c2').ownBlock.toList := fun hm => by have := (HG3.out.o2.lt W.heap.size (by simpa using hm)).1; have := HWW.out; omega
      have y5 : w5.cell? ⟨W.heap.size, 1, none⟩ = some (.slice A2 n2 c2') := g5.cell HG3.out.c2 hn5
      have z5 : w5.frozen? ⟨W.heap.size, 1, none⟩ = false := (World.frozen?_of_block (a := ⟨W.heap.size, 1, none⟩) (g5.block _ HG3.out.lt hn5)).trans HG3.out.f2
      obtain ⟨W6, hW6⟩ : ∃ W6, w5.setCell ⟨W.heap.size, 1, none⟩ (.slice A5 n5 c5) = W6 := ⟨_, rfl⟩
      have HW6 := Lib.hid hW6
      have HX6 : Hid (G3 W.heap.size w2.heap.size (.slice A1 n1 c1) (.slice A5 n5 c5) (.slice A3' n3 c3') l1 (l2 ++ [1]) l3 W6) := Lib.hid (by rw [← hW6]; exact HX5.out)
      have G6 : Hid (GrownL (W.heap.size :: (Value.slice A2 n2 c2').ownBlock.toList) W3 W6) := Lib.hid (by rw [← hW6]; exact (g5.mono (by simp +contextual)).trans (GrownL.set _ _ _ (by simp)))
      have y6 : (w5.setCell ⟨W.heap.size, 1, none⟩ (.slice A5 n5 c5)).cell? ⟨W.heap.size, 2, none⟩ = some (.slice A3' n3 c3') := HX5.out.c3
      have R3 : Hid ((w5.setCell ⟨W.heap.size, 1, none⟩ (.slice A5 n5 c5)).ownsRow w2.heap.size 3 1 (.slice A3' n3 c3') n3 (l3.flatMap encI)) := Lib.hid (by have := HX5.out.o3; unfold OwnG at this; rwa [HN3.out] at this)
      have hbs7 : w2.heap.size ≤ w5.heap.size := by have := g5.size; omega
      have hbs6 : w2.heap.size ≤ (w5.setCell ⟨W.heap.size, 1, none⟩ (.slice A5 n5 c5)).heap.size := by have := g5.size; simp; omega
      clear hown5 hgrow5 hat5 g5 hn5 hl5 hW6 x2c
      have hsz5 : (w5.setCell ⟨W.heap.size, 1, none⟩ (.slice A5 n5 c5)).heap.size = w5.heap.size := by simp
      have nw : ∀ (i : Nat) u, ([.int .i64 (-1)] : List Value)[i]? = some u → ((w5.setCell ⟨W.heap.size, 1, none⟩ (.slice A5 n5 c5)).alloc (.cells #[.int .i64 (-1)] 3)).cell? ((⟨w5.heap.size, 0, none⟩ : Addr).add i) = some u := fun i u hi => by have := one_news (w5.setCell ⟨W.heap.size, 1, none⟩ (.slice A5 n5 c5)) (.int .i64 (-1)) 3 i u hi; rwa [hsz5] at this
      have NW := Lib.hid nw
      clear nw hsz5
      gi_wp2_with (gi_at_builtin; refine wpListIn_append_own_at _ rfl _ _ 25 rfl w2.heap.size 3 i0 (.int .i64 0) 1 8 Try.underlying25 hz0 hj0 hj1 hj2 rfl (by decide) _ n3 _ rfl (R3.out.alloc _) ⟨w5.heap.size, 0, none⟩ 1 1 [.int .i64 (-1)] rfl rfl NW.out (fun u hu => one_one (-1) u hu) ?c3b ?c4b ?c5b ?_)
      case c3b => unfold maxLen; omega
      case c4b => omega
      case c5b => first | (simp <;> omega) | omega
      intro v7 w7 hown7 hgrow7 _ hat7
      have O7 : Hid (OwnG encI 1 3 w2.heap.size v7 (l3 ++ [-1]) w7) := Lib.hid (by unfold OwnG; rw [List.flatMap_append, List.length_append, HN3.out]; exact hown7)
      have g7 : GrownL (Value.slice A3' n3 c3').ownBlock.toList W6 w7 := by rw [← HW6.out]; exact (GrownL.of_below ((Below.refl _ _).alloc (Nat.le_refl _) (.cells #[.int .i64 _] 3))).trans (GrownL.of_row hgrow7)
      have AT7 : Hid (v7.ownBlock = (Value.slice A3' n3 c3').ownBlock ∨ ∃ n, v7.ownBlock = some n ∧ W6.heap.size ≤ n) := Lib.hid (hat7.imp (fun h => h) (fun h => ⟨_, h, by rw [← HW6.out]; simp⟩))
      have HX7 := Lib.hid (HX6.out.app3 g7 O7.out AT7.out)
      obtain ⟨A7, c7, rfl, -⟩ := O7.out.form
      obtain ⟨n7, hl7⟩ : ∃ n7, (l3 ++ [-1]).length = n7 := ⟨_, rfl⟩
      rw [hl7] at HX7 AT7 ⊢
      have hn7 : W.heap.size ∉ (Value.slice A3' n3 c3').ownBlock.toList := fun hm => by have := (HX6.out.o3.lt W.heap.size (by simpa using hm)).1; have := HWW.out; omega
      have y7 : w7.cell? ⟨W.heap.size, 2, none⟩ = some (.slice A3' n3 c3') := g7.cell HX6.out.c3 hn7
      have z7 : w7.frozen? ⟨W.heap.size, 2, none⟩ = false := (World.frozen?_of_block (a := ⟨W.heap.size, 2, none⟩) (g7.block _ HX6.out.lt hn7)).trans HX6.out.f3
      have G8 : Hid (GrownL (W.heap.size :: (Value.slice A3' n3 c3').ownBlock.toList) W6 (w7.setCell ⟨W.heap.size, 2, none⟩ (.slice A7 n7 c7))) := Lib.hid ((g7.mono (by simp +contextual)).trans (GrownL.set _ _ _ (by simp)))
      clear hown7 hgrow7 hat7 g7 hn7 hl7 y5 z5 y6
      gi_wp2_with fail
      exact FIN.out _ _ _ _ _ _ _ _ G6.out G8.out AT5.out AT7.out HSO.out HSR.out HX7.out
     ·have h2b : ((xn : Int) == y - 1) = false := by rw [beq_eq_false_iff_ne]; exact h2
      have HCC := Lib.hid (And.intro h1 h2)
      clear h2
      gi_wp2_with fail
      refine wpIn_region_held (open_round _) (S := BelS Wq) (by kernel_rfl) (by kernel_rfl) (BelS.drew0 _) (fun J0 => ?_)
      have KK3 := Lib.hid fun (w_ : World) (hSw : BelS _ w_) => And.intro (hSw.c p1) (And.intro (hSw.c p2) (hSw.c e1))
      refine tk KK3 0 54 J0 ?_
      try simp only [aS]
      refine tk KK3 1 55 J0 ?_
      try simp only [aS]
      refine tk KK3 2 56 J0 ?_
      try simp only [aS]
      refine tk KK3 3 57 J0 ?_
      try simp only [aS]
      refine tk KK3 4 58 J0 ?_
      try simp only [aS]
      refine tk KK3 5 59 J0 ?_
      try simp only [aS]
      refine tk KK3 6 60 J0 ?_
      try simp only [aS]
      refine heldN_done (by kernel_rfl) ?_ _
      rw [HW2a.out]
      clear J0
      gi_wp2_with fail
      refine wpIn_region_held (open_round _) (S := BelS W2a) (by kernel_rfl) (by kernel_rfl) (BelS.drew0 _) (fun J0 => ?_)
      have KK4 := Lib.hid fun (w_ : World) (hSw : BelS _ w_) => And.intro (hSw.c p1a) (And.intro (hSw.c p2a) (hSw.c e1a))
      refine tk KK4 0 61 J0 ?_
      try simp only [aS]
      refine tk KK4 1 62 J0 ?_
      try simp only [aS]
      refine tk KK4 2 63 J0 ?_
      try simp only [aS]
      refine tk KK4 3 64 J0 ?_
      try simp only [aS]
      refine tk KK4 4 65 J0 ?_
      try simp only [aS]
      refine tk KK4 5 66 J0 ?_
      try simp only [aS]
      refine tk KK4 6 67 J0 ?_
      try simp only [aS]
      refine tk KK4 7 68 J0 ?_
      try simp only [aS]
      refine heldN_done (by kernel_rfl) ?_ _
      rw [HW3.out]
      clear J0
      have HSO : Hid (sgO E ⟨xa, xc, xn, x⟩ = -1) := Lib.hid (by unfold sgO; simp only; rw [HY.out]; have := HCC.out; split <;> (try split) <;> omega)
      have HSR : Hid (sgR E ⟨xa, xc, xn, x⟩ = -1) := Lib.hid (by unfold sgR; simp only; rw [HY.out]; have := HCC.out; split <;> (try split) <;> omega)
      gi_wp2_with (gi_at_builtin; refine wpListIn_append_own_at _ rfl _ _ 25 rfl w2.heap.size 3 i0 (.int .i64 0) 1 8 Try.underlying25 hz0 hj0 hj1 hj2 rfl (by decide) _ n2 _ rfl (R2.out.alloc _) ⟨W3.heap.size, 0, none⟩ 1 1 [.int .i64 (-1)] rfl rfl (fun i u hi => one_news W3 (.int .i64 (-1)) 3 i u hi) (fun u hu => one_one (-1) u hu) ?c3a ?c4a ?c5a ?_)
      case c3a => unfold maxLen; omega
      case c4a => omega
      case c5a => first | (simp <;> omega) | omega
      intro v5 w5 hown5 hgrow5 _ hat5
      have O5 : Hid (OwnG encI 1 3 w2.heap.size v5 (l2 ++ [-1]) w5) := Lib.hid (by unfold OwnG; rw [List.flatMap_append, List.length_append, HN2.out]; exact hown5)
      have g5 := (GrownL.of_below ((Below.refl W3.heap.size W3).alloc (Nat.le_refl _) (.cells #[.int .i64 _] 3))).trans (GrownL.of_row hgrow5)
      have GG5 := Lib.hid g5
      have AT5 : Hid (v5.ownBlock = (Value.slice A2 n2 c2').ownBlock ∨ ∃ n, v5.ownBlock = some n ∧ W3.heap.size ≤ n) := Lib.hid (hat5.imp (fun h => h) (fun h => ⟨_, h, by simp⟩))
      have HX5 := Lib.hid (HG3.out.app2 GG5.out O5.out AT5.out)
      obtain ⟨A5, c5, rfl, -⟩ := O5.out.form
      obtain ⟨n5, hl5⟩ : ∃ n5, (l2 ++ [-1]).length = n5 := ⟨_, rfl⟩
      rw [hl5] at HX5 O5 AT5 ⊢
      have hn5 : W.heap.size ∉ (Value.slice A2 n2 c2').ownBlock.toList := fun hm => by have := (HG3.out.o2.lt W.heap.size (by simpa using hm)).1; have := HWW.out; omega
      have y5 : w5.cell? ⟨W.heap.size, 1, none⟩ = some (.slice A2 n2 c2') := g5.cell HG3.out.c2 hn5
      have z5 : w5.frozen? ⟨W.heap.size, 1, none⟩ = false := (World.frozen?_of_block (a := ⟨W.heap.size, 1, none⟩) (g5.block _ HG3.out.lt hn5)).trans HG3.out.f2
      obtain ⟨W6, hW6⟩ : ∃ W6, w5.setCell ⟨W.heap.size, 1, none⟩ (.slice A5 n5 c5) = W6 := ⟨_, rfl⟩
      have HW6 := Lib.hid hW6
      have HX6 : Hid (G3 W.heap.size w2.heap.size (.slice A1 n1 c1) (.slice A5 n5 c5) (.slice A3' n3 c3') l1 (l2 ++ [-1]) l3 W6) := Lib.hid (by rw [← hW6]; exact HX5.out)
      have G6 : Hid (GrownL (W.heap.size :: (Value.slice A2 n2 c2').ownBlock.toList) W3 W6) := Lib.hid (by rw [← hW6]; exact (g5.mono (by simp +contextual)).trans (GrownL.set _ _ _ (by simp)))
      have y6 : (w5.setCell ⟨W.heap.size, 1, none⟩ (.slice A5 n5 c5)).cell? ⟨W.heap.size, 2, none⟩ = some (.slice A3' n3 c3') := HX5.out.c3
      have R3 : Hid ((w5.setCell ⟨W.heap.size, 1, none⟩ (.slice A5 n5 c5)).ownsRow w2.heap.size 3 1 (.slice A3' n3 c3') n3 (l3.flatMap encI)) := Lib.hid (by have := HX5.out.o3; unfold OwnG at this; rwa [HN3.out] at this)
      have hbs7 : w2.heap.size ≤ w5.heap.size := by have := g5.size; omega
      have hbs6 : w2.heap.size ≤ (w5.setCell ⟨W.heap.size, 1, none⟩ (.slice A5 n5 c5)).heap.size := by have := g5.size; simp; omega
      clear hown5 hgrow5 hat5 g5 hn5 hl5 hW6 x2c
      have hsz5 : (w5.setCell ⟨W.heap.size, 1, none⟩ (.slice A5 n5 c5)).heap.size = w5.heap.size := by simp
      have nw : ∀ (i : Nat) u, ([.int .i64 (-1)] : List Value)[i]? = some u → ((w5.setCell ⟨W.heap.size, 1, none⟩ (.slice A5 n5 c5)).alloc (.cells #[.int .i64 (-1)] 3)).cell? ((⟨w5.heap.size, 0, none⟩ : Addr).add i) = some u := fun i u hi => by have := one_news (w5.setCell ⟨W.heap.size, 1, none⟩ (.slice A5 n5 c5)) (.int .i64 (-1)) 3 i u hi; rwa [hsz5] at this
      have NW := Lib.hid nw
      clear nw hsz5
      gi_wp2_with (gi_at_builtin; refine wpListIn_append_own_at _ rfl _ _ 25 rfl w2.heap.size 3 i0 (.int .i64 0) 1 8 Try.underlying25 hz0 hj0 hj1 hj2 rfl (by decide) _ n3 _ rfl (R3.out.alloc _) ⟨w5.heap.size, 0, none⟩ 1 1 [.int .i64 (-1)] rfl rfl NW.out (fun u hu => one_one (-1) u hu) ?c3b ?c4b ?c5b ?_)
      case c3b => unfold maxLen; omega
      case c4b => omega
      case c5b => first | (simp <;> omega) | omega
      intro v7 w7 hown7 hgrow7 _ hat7
      have O7 : Hid (OwnG encI 1 3 w2.heap.size v7 (l3 ++ [-1]) w7) := Lib.hid (by unfold OwnG; rw [List.flatMap_append, List.length_append, HN3.out]; exact hown7)
      have g7 : GrownL (Value.slice A3' n3 c3').ownBlock.toList W6 w7 := by rw [← HW6.out]; exact (GrownL.of_below ((Below.refl _ _).alloc (Nat.le_refl _) (.cells #[.int .i64 _] 3))).trans (GrownL.of_row hgrow7)
      have AT7 : Hid (v7.ownBlock = (Value.slice A3' n3 c3').ownBlock ∨ ∃ n, v7.ownBlock = some n ∧ W6.heap.size ≤ n) := Lib.hid (hat7.imp (fun h => h) (fun h => ⟨_, h, by rw [← HW6.out]; simp⟩))
      have HX7 := Lib.hid (HX6.out.app3 g7 O7.out AT7.out)
      obtain ⟨A7, c7, rfl, -⟩ := O7.out.form
      obtain ⟨n7, hl7⟩ : ∃ n7, (l3 ++ [-1]).length = n7 := ⟨_, rfl⟩
      rw [hl7] at HX7 AT7 ⊢
      have hn7 : W.heap.size ∉ (Value.slice A3' n3 c3').ownBlock.toList := fun hm => by have := (HX6.out.o3.lt W.heap.size (by simpa using hm)).1; have := HWW.out; omega
      have y7 : w7.cell? ⟨W.heap.size, 2, none⟩ = some (.slice A3' n3 c3') := g7.cell HX6.out.c3 hn7
      have z7 : w7.frozen? ⟨W.heap.size, 2, none⟩ = false := (World.frozen?_of_block (a := ⟨W.heap.size, 2, none⟩) (g7.block _ HX6.out.lt hn7)).trans HX6.out.f3
      have G8 : Hid (GrownL (W.heap.size :: (Value.slice A3' n3 c3').ownBlock.toList) W6 (w7.setCell ⟨W.heap.size, 2, none⟩ (.slice A7 n7 c7))) := Lib.hid ((g7.mono (by simp +contextual)).trans (GrownL.set _ _ _ (by simp)))
      clear hown7 hgrow7 hat7 g7 hn7 hl7 y5 z5 y6
      gi_wp2_with fail
      exact FIN.out _ _ _ _ _ _ _ _ G6.out G8.out AT5.out AT7.out HSO.out HSR.out HX7.out
     ·have h2b : ((xn : Int) == y - 1) = false := by rw [beq_eq_false_iff_ne]; exact h2
      have HCC := Lib.hid (And.intro h1 h2)
      clear h2
      gi_wp2_with fail
      refine wpIn_region_held (open_round _) (S := BelS Wq) (by kernel_rfl) (by kernel_rfl) (BelS.drew0 _) (fun J0 => ?_)
      have KK5 := Lib.hid fun (w_ : World) (hSw : BelS _ w_) => And.intro (hSw.c p1) (And.intro (hSw.c p2) (hSw.c e1))
      refine tk KK5 0 54 J0 ?_
      try simp only [aS]
      refine tk KK5 1 55 J0 ?_
      try simp only [aS]
      refine tk KK5 2 56 J0 ?_
      try simp only [aS]
      refine tk KK5 3 57 J0 ?_
      try simp only [aS]
      refine tk KK5 4 58 J0 ?_
      try simp only [aS]
      refine tk KK5 5 59 J0 ?_
      try simp only [aS]
      refine tk KK5 6 60 J0 ?_
      try simp only [aS]
      refine heldN_done (by kernel_rfl) ?_ _
      rw [HW2a.out]
      clear J0
      gi_wp2_with fail
      refine wpIn_region_held (open_round _) (S := BelS W2a) (by kernel_rfl) (by kernel_rfl) (BelS.drew0 _) (fun J0 => ?_)
      have KK6 := Lib.hid fun (w_ : World) (hSw : BelS _ w_) => And.intro (hSw.c p1a) (And.intro (hSw.c p2a) (hSw.c e1a))
      refine tk KK6 0 61 J0 ?_
      try simp only [aS]
      refine tk KK6 1 62 J0 ?_
      try simp only [aS]
      refine tk KK6 2 63 J0 ?_
      try simp only [aS]
      refine tk KK6 3 64 J0 ?_
      try simp only [aS]
      refine tk KK6 4 65 J0 ?_
      try simp only [aS]
      refine tk KK6 5 66 J0 ?_
      try simp only [aS]
      refine tk KK6 6 67 J0 ?_
      try simp only [aS]
      refine tk KK6 7 68 J0 ?_
      try simp only [aS]
      refine heldN_done (by kernel_rfl) ?_ _
      rw [HW3.out]
      clear J0
      have HSO : Hid (sgO E ⟨xa, xc, xn, x⟩ = 0) := Lib.hid (by unfold sgO; simp only; rw [HY.out]; have := HCC.out; split <;> (try split) <;> omega)
      have HSR : Hid (sgR E ⟨xa, xc, xn, x⟩ = 0) := Lib.hid (by unfold sgR; simp only; rw [HY.out]; have := HCC.out; split <;> (try split) <;> omega)
      gi_wp2_with (gi_at_builtin; refine wpListIn_append_own_at _ rfl _ _ 25 rfl w2.heap.size 3 i0 (.int .i64 0) 1 8 Try.underlying25 hz0 hj0 hj1 hj2 rfl (by decide) _ n2 _ rfl (R2.out.alloc _) ⟨W3.heap.size, 0, none⟩ 1 1 [.int .i64 (0)] rfl rfl (fun i u hi => one_news W3 (.int .i64 (0)) 3 i u hi) (fun u hu => one_one (0) u hu) ?c3a ?c4a ?c5a ?_)
      case c3a => unfold maxLen; omega
      case c4a => omega
      case c5a => first | (simp <;> omega) | omega
      intro v5 w5 hown5 hgrow5 _ hat5
      have O5 : Hid (OwnG encI 1 3 w2.heap.size v5 (l2 ++ [0]) w5) := Lib.hid (by unfold OwnG; rw [List.flatMap_append, List.length_append, HN2.out]; exact hown5)
      have g5 := (GrownL.of_below ((Below.refl W3.heap.size W3).alloc (Nat.le_refl _) (.cells #[.int .i64 _] 3))).trans (GrownL.of_row hgrow5)
      have GG5 := Lib.hid g5
      have AT5 : Hid (v5.ownBlock = (Value.slice A2 n2 c2').ownBlock ∨ ∃ n, v5.ownBlock = some n ∧ W3.heap.size ≤ n) := Lib.hid (hat5.imp (fun h => h) (fun h => ⟨_, h, by simp⟩))
      have HX5 := Lib.hid (HG3.out.app2 GG5.out O5.out AT5.out)
      obtain ⟨A5, c5, rfl, -⟩ := O5.out.form
      obtain ⟨n5, hl5⟩ : ∃ n5, (l2 ++ [0]).length = n5 := ⟨_, rfl⟩
      rw [hl5] at HX5 O5 AT5 ⊢
      have hn5 : W.heap.size ∉ (Value.slice A2 n2 c2').ownBlock.toList := fun hm => by have := (HG3.out.o2.lt W.heap.size (by simpa using hm)).1; have := HWW.out; omega
      have y5 : w5.cell? ⟨W.heap.size, 1, none⟩ = some (.slice A2 n2 c2') := g5.cell HG3.out.c2 hn5
      have z5 : w5.frozen? ⟨W.heap.size, 1, none⟩ = false := (World.frozen?_of_block (a := ⟨W.heap.size, 1, none⟩) (g5.block _ HG3.out.lt hn5)).trans HG3.out.f2
      obtain ⟨W6, hW6⟩ : ∃ W6, w5.setCell ⟨W.heap.size, 1, none⟩ (.slice A5 n5 c5) = W6 := ⟨_, rfl⟩
      have HW6 := Lib.hid hW6
      have HX6 : Hid (G3 W.heap.size w2.heap.size (.slice A1 n1 c1) (.slice A5 n5 c5) (.slice A3' n3 c3') l1 (l2 ++ [0]) l3 W6) := Lib.hid (by rw [← hW6]; exact HX5.out)
      have G6 : Hid (GrownL (W.heap.size :: (Value.slice A2 n2 c2').ownBlock.toList) W3 W6) := Lib.hid (by rw [← hW6]; exact (g5.mono (by simp +contextual)).trans (GrownL.set _ _ _ (by simp)))
      have y6 : (w5.setCell ⟨W.heap.size, 1, none⟩ (.slice A5 n5 c5)).cell? ⟨W.heap.size, 2, none⟩ = some (.slice A3' n3 c3') := HX5.out.c3
      have R3 : Hid ((w5.setCell ⟨W.heap.size, 1, none⟩ (.slice A5 n5 c5)).ownsRow w2.heap.size 3 1 (.slice A3' n3 c3') n3 (l3.flatMap encI)) := Lib.hid (by have := HX5.out.o3; unfold OwnG at this; rwa [HN3.out] at this)
      have hbs7 : w2.heap.size ≤ w5.heap.size := by have := g5.size; omega
      have hbs6 : w2.heap.size ≤ (w5.setCell ⟨W.heap.size, 1, none⟩ (.slice A5 n5 c5)).heap.size := by have := g5.size; simp; omega
      clear hown5 hgrow5 hat5 g5 hn5 hl5 hW6 x2c
      have hsz5 : (w5.setCell ⟨W.heap.size, 1, none⟩ (.slice A5 n5 c5)).heap.size = w5.heap.size := by simp
      have nw : ∀ (i : Nat) u, ([.int .i64 (0)] : List Value)[i]? = some u → ((w5.setCell ⟨W.heap.size, 1, none⟩ (.slice A5 n5 c5)).alloc (.cells #[.int .i64 (0)] 3)).cell? ((⟨w5.heap.size, 0, none⟩ : Addr).add i) = some u := fun i u hi => by have := one_news (w5.setCell ⟨W.heap.size, 1, none⟩ (.slice A5 n5 c5)) (.int .i64 (0)) 3 i u hi; rwa [hsz5] at this
      have NW := Lib.hid nw
      clear nw hsz5
      gi_wp2_with (gi_at_builtin; refine wpListIn_append_own_at _ rfl _ _ 25 rfl w2.heap.size 3 i0 (.int .i64 0) 1 8 Try.underlying25 hz0 hj0 hj1 hj2 rfl (by decide) _ n3 _ rfl (R3.out.alloc _) ⟨w5.heap.size, 0, none⟩ 1 1 [.int .i64 (0)] rfl rfl NW.out (fun u hu => one_one (0) u hu) ?c3b ?c4b ?c5b ?_)
      case c3b => unfold maxLen; omega
      case c4b => omega
      case c5b => first | (simp <;> omega) | omega
      intro v7 w7 hown7 hgrow7 _ hat7
      have O7 : Hid (OwnG encI 1 3 w2.heap.size v7 (l3 ++ [0]) w7) := Lib.hid (by unfold OwnG; rw [List.flatMap_append, List.length_append, HN3.out]; exact hown7)
      have g7 : GrownL (Value.slice A3' n3 c3').ownBlock.toList W6 w7 := by rw [← HW6.out]; exact (GrownL.of_below ((Below.refl _ _).alloc (Nat.le_refl _) (.cells #[.int .i64 _] 3))).trans (GrownL.of_row hgrow7)
      have AT7 : Hid (v7.ownBlock = (Value.slice A3' n3 c3').ownBlock ∨ ∃ n, v7.ownBlock = some n ∧ W6.heap.size ≤ n) := Lib.hid (hat7.imp (fun h => h) (fun h => ⟨_, h, by rw [← HW6.out]; simp⟩))
      have HX7 := Lib.hid (HX6.out.app3 g7 O7.out AT7.out)
      obtain ⟨A7, c7, rfl, -⟩ := O7.out.form
      obtain ⟨n7, hl7⟩ : ∃ n7, (l3 ++ [0]).length = n7 := ⟨_, rfl⟩
      rw [hl7] at HX7 AT7 ⊢
      have hn7 : W.heap.size ∉ (Value.slice A3' n3 c3').ownBlock.toList := fun hm => by have := (HX6.out.o3.lt W.heap.size (by simpa using hm)).1; have := HWW.out; omega
      have y7 : w7.cell? ⟨W.heap.size, 2, none⟩ = some (.slice A3' n3 c3') := g7.cell HX6.out.c3 hn7
      have z7 : w7.frozen? ⟨W.heap.size, 2, none⟩ = false := (World.frozen?_of_block (a := ⟨W.heap.size, 2, none⟩) (g7.block _ HX6.out.lt hn7)).trans HX6.out.f3
      have G8 : Hid (GrownL (W.heap.size :: (Value.slice A3' n3 c3').ownBlock.toList) W6 (w7.setCell ⟨W.heap.size, 2, none⟩ (.slice A7 n7 c7))) := Lib.hid ((g7.mono (by simp +contextual)).trans (GrownL.set _ _ _ (by simp)))
      clear hown7 hgrow7 hat7 g7 hn7 hl7 y5 z5 y6
      gi_wp2_with fail
      exact FIN.out _ _ _ _ _ _ _ _ G6.out G8.out AT5.out AT7.out HSO.out HSR.out HX7.out
    case doneb =>
     rintro xs W' hS ⟨a1, ⟨u2, u3, a2, ob2, ob3⟩, a3, a4⟩ hK
     obtain rfl : xs = allP ws := hS
     obtain ⟨A2, c2', rfl, -⟩ := a2.o2.form
     obtain ⟨A3', c3', rfl, -⟩ := a2.o3.form
     obtain ⟨l2, hl2⟩ : ∃ l2, (allP ws).map (sgO E) = l2 := ⟨_, rfl⟩
     obtain ⟨l3, hl3⟩ : ∃ l3, (allP ws).map (sgR E) = l3 := ⟨_, rfl⟩
     rw [hl2, hl3] at a2
     rw [hl2] at ob2
     rw [hl3] at ob3
     obtain ⟨n2, hn2⟩ : ∃ n2, l2.length = n2 := ⟨_, rfl⟩
     obtain ⟨n3, hn3⟩ : ∃ n3, l3.length = n3 := ⟨_, rfl⟩
     rw [hn2, hn3] at a2
     rw [hn2] at ob2
     rw [hn3] at ob3
     have OBA := Lib.hid ob2
     have OBB := Lib.hid ob3
     have HLA := Lib.hid (And.intro hl2 hl3)
     have SA := Lib.hid a1
     have GA := Lib.hid a2
     have MA := Lib.hid a4
     have MB := Lib.hid hK
     have x1 := a2.c1
     have x2 := a2.c2
     have x3 := a2.c3
     have y1 := a1.r0
     have y2 := a1.r1
     have y3 := a1.r2
     have z1 := a1.z0
     have z2 := a1.z1
     have z3 := a1.z2
     clear hl2 hl3 hn2 hn3 a1 a2 a3 a4 hK ob2 ob3
     gi_wp2_with fail
     obtain ⟨p0, p1, p2, gs⟩ := set3 SA.out.r0 SA.out.r1 SA.out.r2 (.slice A1 n1 c1) (.slice A2 n2 c2') (.slice A3' n3 c3')
     have q1 := HZB.out
     have q2 := HWB.out
     have q3 := HWW.out
     have q4 := HS.out
     have q5 := HWZ.out
     have q6 := HZ.out
     have q7 := HS1.out
     have ng : ∀ k, w.heap.size + 2 ≤ k → k ∉ [w.heap.size + 1] := fun k hk hm => by simp at hm; omega
     have kb := (gs.block Wb.heap.size (Array.getElem?_eq_some_iff.1 MB.out).1 (ng _ (by omega))).trans MB.out
     have ka := (gs.block W0.heap.size (Array.getElem?_eq_some_iff.1 MA.out).1 (ng _ (by omega))).trans MA.out
     obtain ⟨Ws, hWs⟩ : ∃ Ws, ((W'.setCell ⟨w.heap.size + 1, 0, none⟩ (.slice A1 n1 c1)).setCell ⟨w.heap.size + 1, 1, none⟩ (.slice A2 n2 c2')).setCell ⟨w.heap.size + 1, 2, none⟩ (.slice A3' n3 c3') = Ws := ⟨_, rfl⟩
     rw [hWs] at p0 p1 p2 gs kb ka ⊢
     have gp1 : GrownL [Wb.heap.size] Ws (Ws.putObj Wb.heap.size (.deferred none)) := GrownL.putObj _ _ _ (by simp)
     have ka1 := (gp1.block W0.heap.size (Array.getElem?_eq_some_iff.1 ka).1 (by simp; omega)).trans ka
     have gp2 : GrownL [W0.heap.size] (Ws.putObj Wb.heap.size (.deferred none)) ((Ws.putObj Wb.heap.size (.deferred none)).putObj W0.heap.size (.deferred none)) := GrownL.putObj _ _ _ (by simp)
     have GG : GrownL [W0.heap.size, Wb.heap.size, w.heap.size + 1] W' ((Ws.putObj Wb.heap.size (.deferred none)).putObj W0.heap.size (.deferred none)) := ((gs.mono (by simp)).trans (gp1.mono (by simp))).trans (gp2.mono (by simp))
     have cc : ∀ i v, Ws.cell? ⟨w.heap.size + 1, i, none⟩ = some v → ((Ws.putObj Wb.heap.size (.deferred none)).putObj W0.heap.size (.deferred none)).cell? ⟨w.heap.size + 1, i, none⟩ = some v := fun i v h => gp2.cell (gp1.cell h (by simp; omega)) (by simp; omega)
     have r0 := cc 0 _ p0
     have r1 := cc 1 _ p1
     have r2 := cc 2 _ p2
     refine ⟨by simp, .inl ⟨_, _, rfl, run_takeDeferred kb, ?_⟩⟩
     refine ⟨by simp, .inl ⟨_, _, rfl, run_takeDeferred ka1, ?_⟩⟩
     have ow : ∀ u l, OwnG encI 1 3 w2.heap.size u l W' → (∀ b, u.ownBlock = some b → b ≠ Wb.heap.size) → OwnG encI 1 3 w.heap.size u l ((Ws.putObj Wb.heap.size (.deferred none)).putObj W0.heap.size (.deferred none)) := fun u l h hb => (h.grown GG (fun b hb' hm => by have := (h.lt b hb').1; have := hb b hb'; simp at hm; omega)).low (by omega)
     refine ⟨.agg #[.slice A1 n1 c1, .slice A2 n2 c2', .slice A3' n3 c3'], by simp [results, Try.results89, go_sem, r0, r1, r2], _, _, _, rfl, ?_, ?_, ?_, SA.out.bel.trans (GG.below (fun b hb => by simp at hb; omega) SA.out.bel.size)⟩
     ·have e : sigH ws id = l1 := by unfold sigH; rw [HE.out, HL1.out]
      rw [e]
      exact ow _ _ GA.out.o1 (fun b hb => by have := HU1.out b hb; omega)
     ·have e : sigO ws id = l2 := by unfold sigO; rw [HE.out, HLA.out.1]
      rw [e]
      exact ow _ _ GA.out.o2 (fun b hb => by have := OBA.out b hb; omega)
     ·have e : sigR ws id = l3 := by unfold sigR; rw [HE.out, HLA.out.2]
      rw [e]
      exact ow _ _ GA.out.o3 (fun b hb => by have := OBB.out b hb; omega)
end Go.Proofs.Ytkoacclbempmdaa
