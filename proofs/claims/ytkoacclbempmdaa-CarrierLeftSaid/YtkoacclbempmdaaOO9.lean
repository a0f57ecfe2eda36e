/- Contracts of isWater and CheckWater. -/
import Derived.Test.YtkoacclbempmdaaOO8
namespace Go.Proofs.Ytkoacclbempmdaa
open Go.RowKit
attribute [local go_sem] Oper.semAt_some

/-- All that lay in a world lies there. -/
def BelS (W0 W : World) : Prop := Below W0.heap.size W0 W
theorem BelS.below {W0 W W' : World} (h : BelS W0 W) (hb : Below W.heap.size W W') : BelS W0 W' := Below.trans h (hb.mono (Below.size h))
theorem BelS.drew0 (W : World) : BelS W W.drew := (Below.refl _ _).drew
theorem BelS.c {W0 W : World} {p : Addr} {v : Value} (h : BelS W0 W) (hc : W0.cell? p = some v) : W.cell? p = some v := (Below.cell h (World.block_lt_of_cell? _ _ hc)).trans hc
theorem BelS.alloc {W0 W : World} (h : BelS W0 W) (o : Obj) : BelS W0 (W.alloc o) := h.below ((Below.refl _ _).alloc (Nat.le_refl _) o)
theorem BelS.b {W0 W : World} (h : BelS W0 W) : Below W0.heap.size W0 W := h
/-- Whether what is told of an outlet is right. -/
def okW (s : Wa) (p : Pl) : Bool := inB 0 ((p.o.ps.length : Int) - 1) (s.boards.getD p.at_ 0) && (inB p.o.k0 p.o.k1 (s.leaks.getD p.at_ 0) && inB p.o.s0 p.o.s1 (s.losses.getD p.at_ 0))
theorem getD_of {α : Type} {l : List α} {i : Nat} {x d : α} (h : l[i]? = some x) : l.getD i d = x := by rw [List.getD_eq_getElem?_getD, h]; rfl
theorem waOk_iff (ws : Wk) (s : Wa) : WaOk ws s ↔ s.river.length = (headsL ws).length ∧ s.boards.length = total ws ∧ s.leaks.length = total ws ∧ s.losses.length = total ws ∧ (∀ x ∈ s.river, inB 0 1048576 x = true) ∧ ∀ p ∈ allP ws, okW s p = true := by
 have hl : (headsL ws).length = (headsN ws).length := by simp [headsL]
 rw [hl]
 constructor
 ·rintro ⟨h1, h2, h3, h4, h5, h6, h7, h8⟩
  refine ⟨h1, h2, h3, h4, fun x hx => inB_iff.2 (h5 x hx), fun p hp => ?_⟩
  obtain ⟨i, hi⟩ := List.mem_iff_getElem?.1 hp
  have hit := lt_total hi
  obtain ⟨rfl, -⟩ := allP_inv hi
  obtain ⟨b, hb⟩ : ∃ b, s.boards[p.at_]? = some b := ⟨_, List.getElem?_eq_getElem (by omega)⟩
  obtain ⟨k, hk⟩ : ∃ k, s.leaks[p.at_]? = some k := ⟨_, List.getElem?_eq_getElem (by omega)⟩
  obtain ⟨l, hl⟩ : ∃ l, s.losses[p.at_]? = some l := ⟨_, List.getElem?_eq_getElem (by omega)⟩
  have e1 := h6 _ p b hi hb
  have e2 := h7 _ p k hi hk
  have e3 := h8 _ p l hi hl
  unfold okW
  rw [getD_of hb, getD_of hk, getD_of hl, Bool.and_eq_true, Bool.and_eq_true, inB_iff, inB_iff, inB_iff]
  omega
 ·rintro ⟨h1, h2, h3, h4, h5, h6⟩
  refine ⟨h1, h2, h3, h4, fun x hx => inB_iff.1 (h5 x hx), fun i p x hp hx => ?_, fun i p x hp hx => ?_, fun i p x hp hx => ?_⟩
  all_goals
   have e := h6 p (List.mem_of_getElem? hp)
   obtain ⟨rfl, -⟩ := allP_inv hp
   unfold okW at e
   rw [Bool.and_eq_true, Bool.and_eq_true, inB_iff, inB_iff, inB_iff] at e
   obtain ⟨e1, e2, e3⟩ := e
  ·rw [getD_of hx] at e1
   omega
  ·rw [getD_of hx] at e2
   exact e2
  ·rw [getD_of hx] at e3
   exact e3
/-- What isWater keeps. -/
structure IwS (w : World) (v a b c d : Value) (W : World) : Prop where
 wk : W.cell? ⟨w.heap.size, 0, none⟩ = some v
 r : W.cell? ⟨w.heap.size + 1, 0, none⟩ = some a
 b : W.cell? ⟨w.heap.size + 1, 1, none⟩ = some b
 k : W.cell? ⟨w.heap.size + 1, 2, none⟩ = some c
 l : W.cell? ⟨w.heap.size + 1, 3, none⟩ = some d
 res : W.cell? ⟨w.heap.size + 1 + 1, 0, none⟩ = some (.bool false)
 fz : W.frozen? ⟨w.heap.size + 1 + 1, 0, none⟩ = false
 bel : Below w.heap.size w W
theorem IwS.siz {w W : World} {v a b c d : Value} (h : IwS w v a b c d W) : w.heap.size + 3 ≤ W.heap.size := World.block_lt_of_cell? _ _ h.res
theorem IwS.grown {w W W' : World} {v a b c d : Value} {bs : List Nat} (h : IwS w v a b c d W) (hg : GrownL bs W W') (hn : ∀ k ∈ bs, w.heap.size + 3 ≤ k) : IwS w v a b c d W' := by
 have nb : ∀ k, k ≤ w.heap.size + 2 → k ∉ bs := fun k hk hm => by have := hn k hm; omega
 exact ⟨hg.cell h.wk (nb _ (by show w.heap.size ≤ _; omega)), hg.cell h.r (nb _ (by show w.heap.size + 1 ≤ _; omega)), hg.cell h.b (nb _ (by show w.heap.size + 1 ≤ _; omega)), hg.cell h.k (nb _ (by show w.heap.size + 1 ≤ _; omega)), hg.cell h.l (nb _ (by show w.heap.size + 1 ≤ _; omega)),
  hg.cell h.res (nb _ (by show w.heap.size + 2 ≤ _; omega)), (World.frozen?_of_block (hg.block _ (World.block_lt_of_cell? _ _ h.res) (nb _ (by show w.heap.size + 2 ≤ _; omega)))).trans h.fz, h.bel.trans (hg.below (fun b hb => by have := hn b hb; omega) h.bel.size)⟩
theorem IwS.below {w W W' : World} {v a b c d : Value} (h : IwS w v a b c d W) (hb : Below W.heap.size W W') : IwS w v a b c d W' := h.grown (GrownL.of_below (bs := []) hb) (by simp)
theorem IwS.ret {w W : World} {v a b c d : Value} (h : IwS w v a b c d W) (x : Bool) : (W.setCell ⟨w.heap.size + 1 + 1, 0, none⟩ (.bool x)).cell? ⟨w.heap.size + 1 + 1, 0, none⟩ = some (.bool x) ∧ GrownL [w.heap.size + 2] W (W.setCell ⟨w.heap.size + 1 + 1, 0, none⟩ (.bool x)) ∧ Below w.heap.size w (W.setCell ⟨w.heap.size + 1 + 1, 0, none⟩ (.bool x)) := by
 have g : GrownL [w.heap.size + 2] W (W.setCell ⟨w.heap.size + 1 + 1, 0, none⟩ (.bool x)) := GrownL.set _ _ _ (by simp)
 exact ⟨World.cell?_setCell_same' _ _ _ (by rw [h.res]; rfl), g, h.bel.trans (g.below (by simp) h.bel.size)⟩
theorem neqB (a b : Nat) : (((a : Int) != (b : Int)) = true ↔ a ≠ b) ∧ (((a : Int) != (b : Int)) = false ↔ a = b) := by
 constructor
 ·rw [bne_iff_ne]
  omega
 ·rw [bne_eq_false_iff_eq]
  omega

set_option maxHeartbeats 16000000 in
set_option maxRecDepth 1000000 in
theorem isWater_any (A : Option Addr) (c : Nat) (wv : Value) (ws : Wk) (s : Wa) (bb : Bool) (w : World) (h : RK w.heap.size (.slice A ws.length c) ws w) (hs : RWa w.heap.size wv s w) (hw : WOk ws) (hbb : bb = true ↔ WaOk ws s) :
  Calls Try.prog 87 #[.agg #[.slice A ws.length c], wv] w fun e w' => e = .returned (.bool bb) ∧ Below w.heap.size w w' := by
 obtain ⟨A1, c1, A2, c2, A3, c3, A4, c4, rfl⟩ := hs.form
 have H := Lib.hid h
 have HS := Lib.hid hs
 have HW := Lib.hid hw
 rw [waOk_iff] at hbb
 have HBB := Lib.hid hbb
 have C1 := Lib.hid fun W (hb : Below w.heap.size w W) => count_any A ws.length c ws W (h.up hb.size hb) (by have := hw.tot; omega)
 have C2 := Lib.hid fun W (hb : Below w.heap.size w W) => heads_any A ws.length c ws W (h.up hb.size hb) hw
 clear h hs hw hbb
 refine (callsIn_wide (n := 3)).1 ?_
 refine callsIn_of_wp_marks Try.func87 rfl trivial ?_ rfl
 simp only [Try.ntmps87, List.size_toArray, List.length_cons, List.length_nil, Nat.reduceAdd, Nat.reduceSub, Array.replicate_succ, Array.replicate_zero, List.push_toArray, List.append_toArray, List.nil_append, List.cons_append]
 gi_wp2_with fail
 refine ⟨trivial, (callsIn_wide.2 (C1.out _ ?b)).mono ?_⟩
 case b => exact (((Below.refl _ _).alloc (Nat.le_refl _) _).alloc (by simp) _).alloc (by simp; omega) _
 rintro e w1 ⟨rfl, b1⟩
 have I1 : Hid (IwS w (.slice A ws.length c) (.slice A1 s.river.length c1) (.slice A2 s.boards.length c2) (.slice A3 s.leaks.length c3) (.slice A4 s.losses.length c4) w1) := Lib.hid (IwS.below ⟨by simp [go_sem], by simp [go_sem], by simp [go_sem], by simp [go_sem], by simp [go_sem], by simp [go_sem], by simp [go_sem], (((Below.refl _ _).alloc (Nat.le_refl _) _).alloc (by simp) _).alloc (by simp; omega) _⟩ b1)
 have x0 := I1.out.wk
 have x1 := I1.out.r
 have x2 := I1.out.b
 have x3 := I1.out.k
 have x4 := I1.out.l
 obtain ⟨nh, hnh⟩ : ∃ nh, (headsL ws).length = nh := ⟨_, rfl⟩
 have HCH : Hid (∀ W, BelS w1 W → Calls Try.prog 102 #[.agg #[.slice A ws.length c]] W fun e w' => ∃ A' c', e = .returned (.slice A' nh c') ∧ Below W.heap.size W w') := Lib.hid fun W hb => (C2.out W (I1.out.bel.trans (hb.b.mono I1.out.bel.size))).mono fun e w' ⟨v, he, ho, hb'⟩ => by
  obtain ⟨A', c', hv, -⟩ := ho.form
  exact ⟨A', c', by rw [he, hv, hnh], hb'⟩
 clear b1 C1 C2
 have HNH := Lib.hid hnh
 rw [hnh] at HBB
 obtain ⟨nt, hnt⟩ : ∃ nt, total ws = nt := ⟨_, rfl⟩
 rw [hnt] at HBB ⊢
 have HNT := Lib.hid hnt
 clear hnh hnt
 by_cases h1 : s.river.length = nh
 ·have h1b : ((s.river.length : Int) != (nh : Int)) = false := (neqB _ _).2.2 h1
  by_cases h2 : s.boards.length = nt
  ·have h2b : ((s.boards.length : Int) != (nt : Int)) = false := (neqB _ _).2.2 h2
   by_cases h3 : s.leaks.length = nt
   ·have h3b : ((s.leaks.length : Int) != (nt : Int)) = false := (neqB _ _).2.2 h3
    by_cases h4 : s.losses.length = nt
    ·have h4b : ((s.losses.length : Int) != (nt : Int)) = false := (neqB _ _).2.2 h4
     have H1 := Lib.hid h1
     have H2 := Lib.hid h2
     have H3 := Lib.hid h3
     have H4 := Lib.hid h4
     clear h1 h2 h3 h4
     gi_wp2_with fail
     refine wpIn_region_held open_wide (S := BelS w1) (by kernel_rfl) (by kernel_rfl) (BelS.drew0 _) (fun J0 => ?_)
     have KK1 := Lib.hid fun (w_ : World) (hSw : BelS _ w_) => And.intro (hSw.c x0) (And.intro (hSw.c x1) (And.intro (hSw.c x2) (And.intro (hSw.c x3) (hSw.c x4))))
     refine tk KK1 0 12 J0 ?_
     try simp only [aS]
     refine tk KK1 1 13 J0 ?_
     try simp only [aS]
     refine tk KK1 2 14 J0 ?_
     try simp only [aS]
     refine tk KK1 3 15 J0 ?_
     try simp only [aS]
     refine wpAnyH_ready (rs := [4]) (by kernel_rfl) (by simp) ?_
     refine AllReadyH.cons rfl (fun K hK => ?_) AllReadyH.nil
     go_simp
     refine (HCH.out _ (J0)).mono ?_
     rintro e wq1 ⟨Ah, ch, rfl, hq1⟩
     have J01 := J0.below hq1
     clear hq1
     refine hK.out _ _ J01 (fun _ => ?_)
     clear hK
     try simp only [aS]
     refine tk KK1 5 17 J01 ?_
     try simp only [aS]
     refine tk KK1 6 18 J01 ?_
     try simp only [aS]
     refine tk KK1 7 19 J01 ?_
     try simp only [aS]
     refine tk KK1 8 20 J01 ?_
     try simp only [aS]
     refine tk KK1 9 21 J01 ?_
     try simp only [aS]
     refine tk KK1 10 22 J01 ?_
     try simp only [aS]
     refine tk KK1 11 23 J01 ?_
     try simp only [aS]
     refine tk KK1 12 24 J01 ?_
     try simp only [aS]
     refine tk KK1 13 25 J01 ?_
     try simp only [aS]
     refine tk KK1 14 26 J01 ?_
     try simp only [aS]
     refine tk KK1 15 27 J01 ?_
     try simp only [aS]
     refine tk KK1 16 28 J01 ?_
     try simp only [aS]
     refine tk KK1 17 29 J01 ?_
     try simp only [aS]
     refine tk KK1 18 30 J01 ?_
     try simp only [aS]
     refine tk KK1 19 31 J01 ?_
     try simp only [aS]
     refine tk KK1 20 32 J01 ?_
     try simp only [aS]
     refine tk KK1 21 33 J01 ?_
     try simp only [aS]
     refine tk KK1 22 34 J01 ?_
     try simp only [aS]
     refine tk KK1 23 35 J01 ?_
     try simp only [aS]
     refine tk KK1 24 36 J01 ?_
     try simp only [aS]
     refine tk KK1 25 37 J01 ?_
     try simp only [aS]
     refine tk KK1 26 38 J01 ?_
     try simp only [aS]
     refine tk KK1 27 39 J01 ?_
     try simp only [aS]
     refine heldN_done (by kernel_rfl) ?_ _
     have I5 := Lib.hid (I1.out.below J01.b)
     clear x0 x1 x2 x3 x4 J0 J01 h1b h2b h3b h4b
     have x1 := I5.out.r
     have hrf : s.river.length ≤ 1000 := by have := headsL_len HW.out; have := H1.out; have := HNH.out; omega
     have hrf0 : (s.river.length : Int) ≤ 1000 := by omega
     gi_wp2_with fail
     gi_loopw [43] (fun u wr => ∃ i : Nat, u = .int .i64 i ∧ i ≤ s.river.length ∧ (∀ (j : Nat) x, j < i → s.river[j]? = some x → inB 0 1048576 x = true) ∧ IwS w (.slice A ws.length c) (.slice A1 s.river.length c1) (.slice A2 s.boards.length c2) (.slice A3 s.leaks.length c3) (.slice A4 s.losses.length c4) wr) (fun u _ => s.river.length - (intOf u).toNat)
     case atStart => exact ⟨0, rfl, by omega, fun j x hj => by omega, I5.out⟩
     case round =>
      obtain ⟨i, rfl, hi, hno, hS⟩ := hrel
      have SS := Lib.hid hS
      have HNO := Lib.hid hno
      clear hS hno x1
      by_cases hil : i < s.river.length
      ·have hi0 : (i : Int) < (s.river.length : Int) := by omega
       obtain ⟨x, hx⟩ : ∃ x, s.river[i]? = some x := ⟨_, List.getElem?_eq_getElem hil⟩
       have HX := Lib.hid hx
       obtain ⟨br, or_, rfl, hbr, q1⟩ := (HS.out.parts.1.up SS.out.bel.size SS.out.bel).int hx
       clear hx
       gi_wp2_with fail
       refine ⟨trivial, (callsIn_wide.2 (flows_any wr)).mono ?_⟩
       rintro e w2 ⟨rfl, b2⟩
       have S2 := Lib.hid (SS.out.below b2)
       clear b2 q1
       gi_wp2_with fail
       refine ⟨trivial, (callsIn_wide.2 (hasN_any 0 1048576 x w2)).mono ?_⟩
       rintro e w3 ⟨rfl, b3⟩
       have S3 := Lib.hid (S2.out.below b3)
       clear b3
       obtain ⟨bx, hbx⟩ : ∃ bx, inB 0 1048576 x = bx := ⟨_, rfl⟩
       have HBX := Lib.hid hbx
       rw [hbx]
       clear hbx
       cases bx
       ·have y0 := S3.out.res
        have y1 := S3.out.fz
        gi_wp2_with fail
        obtain ⟨p0, -, bb'⟩ := S3.out.ret false
        have hbf : bb = false := by
         cases bb
         ·rfl
         ·have := (HBB.out.1 rfl).2.2.2.2.1 x (List.mem_of_getElem? HX.out)
          rw [HBX.out] at this
          exact this.symm
        exact ⟨.bool false, by simp [results, Try.results87, go_sem, p0], by rw [hbf], bb'⟩
       ·gi_wp2_with fail
        go_roundw
        case rel => exact ⟨i + 1, by go_num, by omega, fun j y hj hy => by
         rcases Nat.lt_or_ge j i with h | h
         ·exact HNO.out j y h hy
         ·obtain rfl : j = i := by omega
          rw [HX.out] at hy
          cases hy
          exact HBX.out, S3.out⟩
        case measure => show s.river.length - ((i : Int) + 1).toNat < s.river.length - (i : Int).toNat; omega
      ·have hi0 : (s.river.length : Int) ≤ (i : Int) := by omega
       have HRV : Hid (∀ x ∈ s.river, inB 0 1048576 x = true) := Lib.hid fun x hx => by
        obtain ⟨j, hj⟩ := List.mem_iff_getElem?.1 hx
        exact HNO.out j x (by have := (List.getElem?_eq_some_iff.1 hj).1; omega) hj
       have t0 := SS.out.wk
       clear HNO
       gi_wp2_with fail
       refine ⟨trivial, (callsIn_wide.2 (places_any A ws.length c _)).mono ?_⟩
       rintro e w2 ⟨rfl, rfl⟩
       obtain ⟨W0, hW0⟩ : ∃ W0, wr.alloc (.cells #[.slice A ws.length c] 24) = W0 := ⟨_, rfl⟩
       have hz0 : W0.heap.size = wr.heap.size + 1 := by rw [← hW0]; simp
       have S0 : Hid (IwS w (.slice A ws.length c) (.slice A1 s.river.length c1) (.slice A2 s.boards.length c2) (.slice A3 s.leaks.length c3) (.slice A4 s.losses.length c4) W0) := Lib.hid (by rw [← hW0]; exact SS.out.below ((Below.refl _ _).alloc (Nat.le_refl _) _))
       have K0 : Hid (W0.cell? ⟨wr.heap.size, 0, none⟩ = some (.slice A ws.length c)) := Lib.hid (by rw [← hW0]; simp [go_sem])
       have HZ := Lib.hid hz0
       have HWR : Hid (w.heap.size + 3 ≤ wr.heap.size) := Lib.hid SS.out.siz
       clear hz0 SS t0
       gi_wp2_with fail
       try rw [hW0]
       refine wpIn_rangeP (gf := 132) (lb := #[.pointer (some ⟨wr.heap.size, 0, none⟩)]) rfl enters_places1
        (placesP_seq w W0 wr.heap.size A ws.length c ws H.out (by have := HW.out.tot; omega) (by have := HW.out.len; omega)) (Below.refl _ _) (fun _ => rfl)
        (fun p W => IwS w (.slice A ws.length c) (.slice A1 s.river.length c1) (.slice A2 s.boards.length c2) (.slice A3 s.leaks.length c3) (.slice A4 s.losses.length c4) W ∧ W.cell? ⟨wr.heap.size, 0, none⟩ = some (.slice A ws.length c) ∧ ∀ q ∈ p, okW s q = true) (fun c' _ W => c' = .ret ∧ W.cell? ⟨w.heap.size + 1 + 1, 0, none⟩ = some (.bool false) ∧ Below w.heap.size w W ∧ bb = false) (fun _ _ h => ⟨h.1.bel, h.2.1⟩) ?h0 ?hI ?hIx ?round ?done ?stop
       case h0 =>
        intro W' hb hsz
        exact ⟨S0.out.below hb, (hb.cell (p := ⟨wr.heap.size, 0, none⟩) (by have := HZ.out; show wr.heap.size < _; omega)).trans K0.out, fun q hq => by cases hq⟩
       case hI =>
        rintro p W1 W2 hi hg
        exact ⟨hi.1.grown hg (fun b hb => by have := HZ.out; have := HWR.out; simp at hb; omega), hg.cell hi.2.1 (by have := HZ.out; simp; omega), hi.2.2⟩
       case hIx =>
        rintro c' p W1 W2 ⟨e1, e2, e3, e4⟩ hg
        exact ⟨e1, hg.cell e2 (by have := HZ.out; have := HWR.out; simp; omega), e3.trans (hg.below (fun b hb => by have := HZ.out; have := HWR.out; simp at hb; omega) e3.size), e4⟩
       case round =>
        rintro pre x W ⟨hi, hkw, hoks⟩ hsz hsp
        have HI := Lib.hid hi
        have HK := Lib.hid hkw
        have HOKS := Lib.hid hoks
        have HSP := Lib.hid (sp_next hsp)
        clear hi hsp hkw hoks
        obtain ⟨xa, xc, xn, x⟩ := x
        dsimp only [encP]
        gi_wp2_with fail
        refine ⟨Keeps.of_below (((Below.refl _ _).alloc (Nat.le_refl _) _).alloc (by simp) _), fun W2 hg2 hl2 => ?_⟩
        obtain ⟨hP, hO, hg, hz2⟩ := po_cells hg2 (by have := HZ.out; omega)
        have I2 := Lib.hid (HI.out.grown hg (fun b hb => by have := HZ.out; have := HWR.out; simp at hb; omega))
        have K2 := Lib.hid (hg.cell HK.out (by have := HZ.out; simp; omega))
        obtain ⟨n, hxn, hpre, hnl, hnt⟩ := HSP.out
        subst hpre
        have hat : xa = n := (allP_inv hxn).1
        subst hat
        obtain ⟨b, hb⟩ : ∃ b, s.boards[xa]? = some b := ⟨_, List.getElem?_eq_getElem (by have := H2.out; have := HNT.out; omega)⟩
        obtain ⟨k, hk⟩ : ∃ k, s.leaks[xa]? = some k := ⟨_, List.getElem?_eq_getElem (by have := H3.out; have := HNT.out; omega)⟩
        obtain ⟨l, hl⟩ : ∃ l, s.losses[xa]? = some l := ⟨_, List.getElem?_eq_getElem (by have := H4.out; have := HNT.out; omega)⟩
        obtain ⟨br, or_, rfl, hbr, qb⟩ := (HS.out.parts.2.1.up I2.out.bel.size I2.out.bel).int hb
        obtain ⟨bk, ok, rfl, hbk, qk⟩ := (HS.out.parts.2.2.1.up I2.out.bel.size I2.out.bel).int hk
        obtain ⟨bl, ol, rfl, hbl', ql⟩ := (HS.out.parts.2.2.2.up I2.out.bel.size I2.out.bel).int hl
        have hpl := (HW.out.ou hxn).pu
        simp only at hpl
        have lb : (xa : Int) < (s.boards.length : Int) := by have := (List.getElem?_eq_some_iff.1 hb).1; omega
        have lk : (xa : Int) < (s.leaks.length : Int) := by have := (List.getElem?_eq_some_iff.1 hk).1; omega
        have ll : (xa : Int) < (s.losses.length : Int) := by have := (List.getElem?_eq_some_iff.1 hl).1; omega
        have hxa1 : (0 : Int) ≤ (xa : Int) := by omega
        have HOK : Hid (okW s ⟨xa, xc, xn, x⟩ = (inB 0 ((x.ps.length : Int) - 1) b && (inB x.k0 x.k1 k && inB x.s0 x.s1 l))) := Lib.hid (by unfold okW; rw [getD_of hb, getD_of hk, getD_of hl])
        have HXN := Lib.hid hxn
        have o0 := hO.id
        have o1 := hO.into
        have o2 := hO.pv
        have o3 := hO.k0
        have o4 := hO.k1
        have o5 := hO.s0
        have o6 := hO.s1
        have p0 := hP.at_
        simp only at p0
        have t1 := I2.out.b
        have t2 := I2.out.k
        have t3 := I2.out.l
        clear HI HK hP hO hg hz2 hg2 hl2 hsz hxn hnl hb hk hl HSP
        obtain ⟨B1, hB1⟩ : ∃ B1, inB 0 ((x.ps.length : Int) - 1) b = B1 := ⟨_, rfl⟩
        obtain ⟨B2, hB2⟩ : ∃ B2, inB x.k0 x.k1 k = B2 := ⟨_, rfl⟩
        obtain ⟨B3, hB3⟩ : ∃ B3, inB x.s0 x.s1 l = B3 := ⟨_, rfl⟩
        have HB1 := Lib.hid hB1
        have HB2 := Lib.hid hB2
        have HB3 := Lib.hid hB3
        rcases B1 with _ | _
        ·gi_wp2_with fail
         refine wpIn_region_held (open_round _) (S := BelS W2) (by kernel_rfl) (by kernel_rfl) (BelS.drew0 _) (fun J0 => ?_)
         have KK2 := Lib.hid fun (w_ : World) (hSw : BelS _ w_) => And.intro (hSw.c o0) (And.intro (hSw.c o1) (And.intro (hSw.c o2) (And.intro (hSw.c o3) (And.intro (hSw.c o4) (And.intro (hSw.c o5) (And.intro (hSw.c o6) (And.intro (hSw.c p0) (And.intro (hSw.c t1) (And.intro (hSw.c t2) (And.intro (hSw.c t3) (And.intro (hSw.c qb) (And.intro (hSw.c qk) (hSw.c ql)))))))))))))
         refine tk KK2 0 56 J0 ?_
         try simp only [aS]
         refine tk KK2 2 58 J0 ?_
         try simp only [aS]
         refine tk KK2 3 59 J0 ?_
         try simp only [aS]
         refine tk KK2 4 60 J0 ?_
         try simp only [aS]
         refine tk KK2 5 61 J0 ?_
         try simp only [aS]
         refine tk KK2 6 62 J0 ?_
         try simp only [aS]
         refine tk KK2 7 63 J0 ?_
         try simp only [aS]
         refine wpAnyH_ready (rs := [1]) (by kernel_rfl) (by simp) ?_
         refine AllReadyH.cons rfl (fun K hK => ?_) AllReadyH.nil
         go_simp
         refine (boards_any x _ (by omega)).mono ?_
         rintro e wq1 ⟨rfl, hq1⟩
         have J01 := J0.below hq1
         clear hq1
         refine hK.out _ _ J01 (fun _ => ?_)
         clear hK
         try simp only [aS]
         refine wpAnyH_ready (rs := [8]) (by kernel_rfl) (by simp) ?_
         refine AllReadyH.cons rfl (fun K hK => ?_) AllReadyH.nil
         go_simp
         refine (hasN_any 0 ((x.ps.length : Int) - 1) b _).mono ?_
         rintro e wq2 ⟨rfl, hq2⟩
         have J02 := J01.below hq2
         clear hq2
         refine hK.out _ _ J02 (fun _ => ?_)
         clear hK
         try simp only [aS]
         refine tk KK2 9 65 J02 ?_
         try simp only [aS]
         refine tk KK2 10 66 J02 ?_
         try simp only [aS]
         refine sw 11 67 J02 ?_
         try simp only [aS]
         refine sw 12 68 J02 ?_
         try simp only [aS]
         refine sw 13 69 J02 ?_
         try simp only [aS]
         refine sw 14 70 J02 ?_
         try simp only [aS]
         refine sw 15 71 J02 ?_
         try simp only [aS]
         refine sw 16 72 J02 ?_
         try simp only [aS]
         refine sw 17 73 J02 ?_
         try simp only [aS]
         refine sw 18 74 J02 ?_
         try simp only [aS]
         refine sw 19 75 J02 ?_
         try simp only [aS]
         refine sw 20 76 J02 ?_
         try simp only [aS]
         refine tk KK2 21 77 J02 ?_
         try simp only [aS]
         refine tk KK2 22 78 J02 ?_
         try simp only [aS]
         refine sw 23 79 J02 ?_
         try simp only [aS]
         refine sw 24 80 J02 ?_
         try simp only [aS]
         refine sw 25 81 J02 ?_
         try simp only [aS]
         refine sw 26 82 J02 ?_
         try simp only [aS]
         refine sw 27 83 J02 ?_
         try simp only [aS]
         refine sw 28 84 J02 ?_
         try simp only [aS]
         refine sw 29 85 J02 ?_
         try simp only [aS]
         refine sw 30 86 J02 ?_
         try simp only [aS]
         refine sw 31 87 J02 ?_
         try simp only [aS]
         refine sw 32 88 J02 ?_
         try simp only [aS]
         refine tk KK2 33 89 J02 ?_
         try simp only [aS]
         refine heldN_done (by kernel_rfl) ?_ _
         have IE := Lib.hid (I2.out.below J02.b)
         have KE : Hid (Keeps [W0.heap.size, W0.heap.size + 1] W2 wq2) := Lib.hid (Keeps.of_below J02.b)
         have y0 := IE.out.res
         have y1 := IE.out.fz
         clear o0 o1 o2 o3 o4 o5 o6 p0 t1 t2 t3 qb qk ql J0 J01 J02
         gi_wp2_with fail
         obtain ⟨z0, gz, bb'⟩ := IE.out.ret false
         refine ⟨KE.out.trans (Keeps.of_grown gz (fun o ho hm => by have := HZ.out; have := HWR.out; simp at ho hm; omega)), rfl, z0, bb', ?_⟩
         cases bb
         ·rfl
         ·have h := (HBB.out.1 rfl).2.2.2.2.2 _ (List.mem_of_getElem? HXN.out)
          rw [HOK.out, HB1.out] at h
          simp at h
        rcases B2 with _ | _
        ·gi_wp2_with fail
         refine wpIn_region_held (open_round _) (S := BelS W2) (by kernel_rfl) (by kernel_rfl) (BelS.drew0 _) (fun J0 => ?_)
         have KK3 := Lib.hid fun (w_ : World) (hSw : BelS _ w_) => And.intro (hSw.c o0) (And.intro (hSw.c o1) (And.intro (hSw.c o2) (And.intro (hSw.c o3) (And.intro (hSw.c o4) (And.intro (hSw.c o5) (And.intro (hSw.c o6) (And.intro (hSw.c p0) (And.intro (hSw.c t1) (And.intro (hSw.c t2) (And.intro (hSw.c t3) (And.intro (hSw.c qb) (And.intro (hSw.c qk) (hSw.c ql)))))))))))))
         refine tk KK3 0 56 J0 ?_
         try simp only [aS]
         refine tk KK3 2 58 J0 ?_
         try simp only [aS]
         refine tk KK3 3 59 J0 ?_
         try simp only [aS]
         refine tk KK3 4 60 J0 ?_
         try simp only [aS]
         refine tk KK3 5 61 J0 ?_
         try simp only [aS]
         refine tk KK3 6 62 J0 ?_
         try simp only [aS]
         refine tk KK3 7 63 J0 ?_
         try simp only [aS]
         refine wpAnyH_ready (rs := [1]) (by kernel_rfl) (by simp) ?_
         refine AllReadyH.cons rfl (fun K hK => ?_) AllReadyH.nil
         go_simp
         refine (boards_any x _ (by omega)).mono ?_
         rintro e wq1 ⟨rfl, hq1⟩
         have J01 := J0.below hq1
         clear hq1
         refine hK.out _ _ J01 (fun _ => ?_)
         clear hK
         try simp only [aS]
         refine wpAnyH_ready (rs := [8]) (by kernel_rfl) (by simp) ?_
         refine AllReadyH.cons rfl (fun K hK => ?_) AllReadyH.nil
         go_simp
         refine (hasN_any 0 ((x.ps.length : Int) - 1) b _).mono ?_
         rintro e wq2 ⟨rfl, hq2⟩
         have J02 := J01.below hq2
         clear hq2
         refine hK.out _ _ J02 (fun _ => ?_)
         clear hK
         try simp only [aS]
         refine tk KK3 9 65 J02 ?_
         try simp only [aS]
         refine tk KK3 10 66 J02 ?_
         try simp only [aS]
         refine tk KK3 11 67 J02 ?_
         try simp only [aS]
         refine tk KK3 12 68 J02 ?_
         try simp only [aS]
         refine tk KK3 13 69 J02 ?_
         try simp only [aS]
         refine tk KK3 14 70 J02 ?_
         try simp only [aS]
         refine tk KK3 15 71 J02 ?_
         try simp only [aS]
         refine tk KK3 16 72 J02 ?_
         try simp only [aS]
         refine tk KK3 17 73 J02 ?_
         try simp only [aS]
         refine tk KK3 18 74 J02 ?_
         try simp only [aS]
         refine wpAnyH_ready (rs := [19]) (by kernel_rfl) (by simp) ?_
         refine AllReadyH.cons rfl (fun K hK => ?_) AllReadyH.nil
         go_simp
         refine (hasN_any x.k0 x.k1 k _).mono ?_
         rintro e wq3 ⟨rfl, hq3⟩
         have J03 := J02.below hq3
         clear hq3
         refine hK.out _ _ J03 (fun _ => ?_)
         clear hK
         try simp only [aS]
         refine tk KK3 20 76 J03 ?_
         try simp only [aS]
         refine tk KK3 21 77 J03 ?_
         try simp only [aS]
         refine tk KK3 22 78 J03 ?_
         try simp only [aS]
         refine sw 23 79 J03 ?_
         try simp only [aS]
         refine sw 24 80 J03 ?_
         try simp only [aS]
         refine sw 25 81 J03 ?_
         try simp only [aS]
         refine sw 26 82 J03 ?_
         try simp only [aS]
         refine sw 27 83 J03 ?_
         try simp only [aS]
         refine sw 28 84 J03 ?_
         try simp only [aS]
         refine sw 29 85 J03 ?_
         try simp only [aS]
         refine sw 30 86 J03 ?_
         try simp only [aS]
         refine sw 31 87 J03 ?_
         try simp only [aS]
         refine sw 32 88 J03 ?_
         try simp only [aS]
         refine tk KK3 33 89 J03 ?_
         try simp only [aS]
         refine heldN_done (by kernel_rfl) ?_ _
         have IE := Lib.hid (I2.out.below J03.b)
         have KE : Hid (Keeps [W0.heap.size, W0.heap.size + 1] W2 wq3) := Lib.hid (Keeps.of_below J03.b)
         have y0 := IE.out.res
         have y1 := IE.out.fz
         clear o0 o1 o2 o3 o4 o5 o6 p0 t1 t2 t3 qb qk ql J0 J01 J02 J03
         gi_wp2_with fail
         obtain ⟨z0, gz, bb'⟩ := IE.out.ret false
         refine ⟨KE.out.trans (Keeps.of_grown gz (fun o ho hm => by have := HZ.out; have := HWR.out; simp at ho hm; omega)), rfl, z0, bb', ?_⟩
         cases bb
         ·rfl
         ·have h := (HBB.out.1 rfl).2.2.2.2.2 _ (List.mem_of_getElem? HXN.out)
          rw [HOK.out, HB1.out, HB2.out] at h
          simp at h
        rcases B3 with _ | _
        ·gi_wp2_with fail
         refine wpIn_region_held (open_round _) (S := BelS W2) (by kernel_rfl) (by kernel_rfl) (BelS.drew0 _) (fun J0 => ?_)
         have KK4 := Lib.hid fun (w_ : World) (hSw : BelS _ w_) => And.intro (hSw.c o0) (And.intro (hSw.c o1) (And.intro (hSw.c o2) (And.intro (hSw.c o3) (And.intro (hSw.c o4) (And.intro (hSw.c o5) (And.intro (hSw.c o6) (And.intro (hSw.c p0) (And.intro (hSw.c t1) (And.intro (hSw.c t2) (And.intro (hSw.c t3) (And.intro (hSw.c qb) (And.intro (hSw.c qk) (hSw.c ql)))))))))))))
         refine tk KK4 0 56 J0 ?_
         try simp only [aS]
         refine tk KK4 2 58 J0 ?_
         try simp only [aS]
         refine tk KK4 3 59 J0 ?_
         try simp only [aS]
         refine tk KK4 4 60 J0 ?_
         try simp only [aS]
         refine tk KK4 5 61 J0 ?_
         try simp only [aS]
         refine tk KK4 6 62 J0 ?_
         try simp only [aS]
         refine tk KK4 7 63 J0 ?_
         try simp only [aS]
         refine wpAnyH_ready (rs := [1]) (by kernel_rfl) (by simp) ?_
         refine AllReadyH.cons rfl (fun K hK => ?_) AllReadyH.nil
         go_simp
         refine (boards_any x _ (by omega)).mono ?_
         rintro e wq1 ⟨rfl, hq1⟩
         have J01 := J0.below hq1
         clear hq1
         refine hK.out _ _ J01 (fun _ => ?_)
         clear hK
         try simp only [aS]
         refine wpAnyH_ready (rs := [8]) (by kernel_rfl) (by simp) ?_
         refine AllReadyH.cons rfl (fun K hK => ?_) AllReadyH.nil
         go_simp
         refine (hasN_any 0 ((x.ps.length : Int) - 1) b _).mono ?_
         rintro e wq2 ⟨rfl, hq2⟩
         have J02 := J01.below hq2
         clear hq2
         refine hK.out _ _ J02 (fun _ => ?_)
         clear hK
         try simp only [aS]
         refine tk KK4 9 65 J02 ?_
         try simp only [aS]
         refine tk KK4 10 66 J02 ?_
         try simp only [aS]
         refine tk KK4 11 67 J02 ?_
         try simp only [aS]
         refine tk KK4 12 68 J02 ?_
         try simp only [aS]
         refine tk KK4 13 69 J02 ?_
         try simp only [aS]
         refine tk KK4 14 70 J02 ?_
         try simp only [aS]
         refine tk KK4 15 71 J02 ?_
         try simp only [aS]
         refine tk KK4 16 72 J02 ?_
         try simp only [aS]
         refine tk KK4 17 73 J02 ?_
         try simp only [aS]
         refine tk KK4 18 74 J02 ?_
         try simp only [aS]
         refine wpAnyH_ready (rs := [19]) (by kernel_rfl) (by simp) ?_
         refine AllReadyH.cons rfl (fun K hK => ?_) AllReadyH.nil
         go_simp
         refine (hasN_any x.k0 x.k1 k _).mono ?_
         rintro e wq3 ⟨rfl, hq3⟩
         have J03 := J02.below hq3
         clear hq3
         refine hK.out _ _ J03 (fun _ => ?_)
         clear hK
         try simp only [aS]
         refine tk KK4 20 76 J03 ?_
         try simp only [aS]
         refine tk KK4 21 77 J03 ?_
         try simp only [aS]
         refine tk KK4 22 78 J03 ?_
         try simp only [aS]
         refine tk KK4 23 79 J03 ?_
         try simp only [aS]
         refine tk KK4 24 80 J03 ?_
         try simp only [aS]
         refine tk KK4 25 81 J03 ?_
         try simp only [aS]
         refine tk KK4 26 82 J03 ?_
         try simp only [aS]
         refine tk KK4 27 83 J03 ?_
         try simp only [aS]
         refine tk KK4 28 84 J03 ?_
         try simp only [aS]
         refine tk KK4 29 85 J03 ?_
         try simp only [aS]
         refine tk KK4 30 86 J03 ?_
         try simp only [aS]
         refine wpAnyH_ready (rs := [31]) (by kernel_rfl) (by simp) ?_
         refine AllReadyH.cons rfl (fun K hK => ?_) AllReadyH.nil
         go_simp
         refine (hasN_any x.s0 x.s1 l _).mono ?_
         rintro e wq4 ⟨rfl, hq4⟩
         have J04 := J03.below hq4
         clear hq4
         refine hK.out _ _ J04 (fun _ => ?_)
         clear hK
         try simp only [aS]
         refine tk KK4 32 88 J04 ?_
         try simp only [aS]
         refine tk KK4 33 89 J04 ?_
         try simp only [aS]
         refine heldN_done (by kernel_rfl) ?_ _
         have IE := Lib.hid (I2.out.below J04.b)
         have KE : Hid (Keeps [W0.heap.size, W0.heap.size + 1] W2 wq4) := Lib.hid (Keeps.of_below J04.b)
         have y0 := IE.out.res
         have y1 := IE.out.fz
         clear o0 o1 o2 o3 o4 o5 o6 p0 t1 t2 t3 qb qk ql J0 J01 J02 J03 J04
         gi_wp2_with fail
         obtain ⟨z0, gz, bb'⟩ := IE.out.ret false
         refine ⟨KE.out.trans (Keeps.of_grown gz (fun o ho hm => by have := HZ.out; have := HWR.out; simp at ho hm; omega)), rfl, z0, bb', ?_⟩
         cases bb
         ·rfl
         ·have h := (HBB.out.1 rfl).2.2.2.2.2 _ (List.mem_of_getElem? HXN.out)
          rw [HOK.out, HB1.out, HB2.out, HB3.out] at h
          simp at h
        ·gi_wp2_with fail
         refine wpIn_region_held (open_round _) (S := BelS W2) (by kernel_rfl) (by kernel_rfl) (BelS.drew0 _) (fun J0 => ?_)
         have KK5 := Lib.hid fun (w_ : World) (hSw : BelS _ w_) => And.intro (hSw.c o0) (And.intro (hSw.c o1) (And.intro (hSw.c o2) (And.intro (hSw.c o3) (And.intro (hSw.c o4) (And.intro (hSw.c o5) (And.intro (hSw.c o6) (And.intro (hSw.c p0) (And.intro (hSw.c t1) (And.intro (hSw.c t2) (And.intro (hSw.c t3) (And.intro (hSw.c qb) (And.intro (hSw.c qk) (hSw.c ql)))))))))))))
         refine tk KK5 0 56 J0 ?_
         try simp only [aS]
         refine tk KK5 2 58 J0 ?_
         try simp only [aS]
         refine tk KK5 3 59 J0 ?_
         try simp only [aS]
         refine tk KK5 4 60 J0 ?_
         try simp only [aS]
         refine tk KK5 5 61 J0 ?_
         try simp only [aS]
         refine tk KK5 6 62 J0 ?_
         try simp only [aS]
         refine tk KK5 7 63 J0 ?_
         try simp only [aS]
         refine wpAnyH_ready (rs := [1]) (by kernel_rfl) (by simp) ?_
         refine AllReadyH.cons rfl (fun K hK => ?_) AllReadyH.nil
         go_simp
         refine (boards_any x _ (by omega)).mono ?_
         rintro e wq1 ⟨rfl, hq1⟩
         have J01 := J0.below hq1
         clear hq1
         refine hK.out _ _ J01 (fun _ => ?_)
         clear hK
         try simp only [aS]
         refine wpAnyH_ready (rs := [8]) (by kernel_rfl) (by simp) ?_
         refine AllReadyH.cons rfl (fun K hK => ?_) AllReadyH.nil
         go_simp
         refine (hasN_any 0 ((x.ps.length : Int) - 1) b _).mono ?_
         rintro e wq2 ⟨rfl, hq2⟩
         have J02 := J01.below hq2
         clear hq2
         refine hK.out _ _ J02 (fun _ => ?_)
         clear hK
         try simp only [aS]
         refine tk KK5 9 65 J02 ?_
         try simp only [aS]
         refine tk KK5 10 66 J02 ?_
         try simp only [aS]
         refine tk KK5 11 67 J02 ?_
         try simp only [aS]
         refine tk KK5 12 68 J02 ?_
         try simp only [aS]
         refine tk KK5 13 69 J02 ?_
         try simp only [aS]
         refine tk KK5 14 70 J02 ?_
         try simp only [aS]
         refine tk KK5 15 71 J02 ?_
         try simp only [aS]
         refine tk KK5 16 72 J02 ?_
         try simp only [aS]
         refine tk KK5 17 73 J02 ?_
         try simp only [aS]
         refine tk KK5 18 74 J02 ?_
         try simp only [aS]
         refine wpAnyH_ready (rs := [19]) (by kernel_rfl) (by simp) ?_
         refine AllReadyH.cons rfl (fun K hK => ?_) AllReadyH.nil
         go_simp
         refine (hasN_any x.k0 x.k1 k _).mono ?_
         rintro e wq3 ⟨rfl, hq3⟩
         have J03 := J02.below hq3
         clear hq3
         refine hK.out _ _ J03 (fun _ => ?_)
         clear hK
         try simp only [aS]
         refine tk KK5 20 76 J03 ?_
         try simp only [aS]
         refine tk KK5 21 77 J03 ?_
         try simp only [aS]
         refine tk KK5 22 78 J03 ?_
         try simp only [aS]
         refine tk KK5 23 79 J03 ?_
         try simp only [aS]
         refine tk KK5 24 80 J03 ?_
         try simp only [aS]
         refine tk KK5 25 81 J03 ?_
         try simp only [aS]
         refine tk KK5 26 82 J03 ?_
         try simp only [aS]
         refine tk KK5 27 83 J03 ?_
         try simp only [aS]
         refine tk KK5 28 84 J03 ?_
         try simp only [aS]
         refine tk KK5 29 85 J03 ?_
         try simp only [aS]
         refine tk KK5 30 86 J03 ?_
         try simp only [aS]
         refine wpAnyH_ready (rs := [31]) (by kernel_rfl) (by simp) ?_
         refine AllReadyH.cons rfl (fun K hK => ?_) AllReadyH.nil
         go_simp
         refine (hasN_any x.s0 x.s1 l _).mono ?_
         rintro e wq4 ⟨rfl, hq4⟩
         have J04 := J03.below hq4
         clear hq4
         refine hK.out _ _ J04 (fun _ => ?_)
         clear hK
         try simp only [aS]
         refine tk KK5 32 88 J04 ?_
         try simp only [aS]
         refine tk KK5 33 89 J04 ?_
         try simp only [aS]
         refine heldN_done (by kernel_rfl) ?_ _
         have IE := Lib.hid (I2.out.below J04.b)
         have KE : Hid (Keeps [W0.heap.size, W0.heap.size + 1] W2 wq4) := Lib.hid (Keeps.of_below J04.b)
         have KW := Lib.hid (BelS.c J04 K2.out)
         clear o0 o1 o2 o3 o4 o5 o6 p0 t1 t2 t3 qb qk ql J0 J01 J02 J03 J04
         gi_wp2_with fail
         refine ⟨KE.out, IE.out, KW.out, fun q hq => ?_⟩
         rcases List.mem_append.1 hq with hq | hq
         ·exact HOKS.out q hq
         ·rw [List.mem_singleton] at hq
          subst hq
          rw [HOK.out, HB1.out, HB2.out, HB3.out]
          rfl
       case done =>
        rintro xs W hS ⟨hi, hk0, hoks⟩ hK
        obtain rfl : xs = allP ws := hS
        have HI := Lib.hid hi
        have HKK := Lib.hid hK
        have hbt : bb = true := HBB.out.2 ⟨H1.out, H2.out, H3.out, H4.out, HRV.out, hoks⟩
        have HBT := Lib.hid hbt
        have y0 := hi.res
        have y1 := hi.fz
        clear hi hK hk0 hoks hbt
        gi_wp2_with fail
        obtain ⟨p0, g1, bb'⟩ := HI.out.ret true
        have gp : GrownL [W0.heap.size] _ _ := GrownL.putObj (bs := [W0.heap.size]) (W.setCell ⟨w.heap.size + 1 + 1, 0, none⟩ (.bool true)) W0.heap.size (.deferred none) (by simp)
        have p1 := gp.cell p0 (by have := HZ.out; have := HWR.out; simp; omega)
        have hk := (g1.block W0.heap.size (Array.getElem?_eq_some_iff.1 HKK.out).1 (by have := HZ.out; have := HWR.out; simp; omega)).trans HKK.out
        refine ⟨by simp, .inl ⟨_, _, rfl, run_takeDeferred hk, ?_⟩⟩
        exact ⟨.bool true, by simp [results, Try.results87, go_sem, p1], by rw [HBT.out], bb'.trans (gp.below (by have := HZ.out; have := HWR.out; simp; omega) bb'.size)⟩
       case stop =>
        rintro c' pre W hS ⟨rfl, hr, hB, hbf⟩ hK
        have gp : GrownL [W0.heap.size] _ _ := GrownL.putObj (bs := [W0.heap.size]) W W0.heap.size (.deferred none) (by simp)
        have p0 := gp.cell hr (by have := HZ.out; have := HWR.out; simp; omega)
        have HKK := Lib.hid hK
        have HBE := Lib.hid hB
        have HBF := Lib.hid hbf
        clear hr hK hB hbf
        gi_wp2_with fail
        refine ⟨by simp, .inl ⟨_, _, rfl, run_takeDeferred HKK.out, ?_⟩⟩
        exact ⟨.bool false, by simp [results, Try.results87, go_sem, p0], by rw [HBF.out], HBE.out.trans (gp.below (by have := HZ.out; have := HWR.out; simp; omega) HBE.out.size)⟩
    ·have h4b : ((s.losses.length : Int) != (nt : Int)) = true := (neqB _ _).1.2 h4
     have H4 := Lib.hid h4
     clear h1 h2 h3 h4
     gi_wp2_with fail
     refine wpIn_region_held open_wide (S := BelS w1) (by kernel_rfl) (by kernel_rfl) (BelS.drew0 _) (fun J0 => ?_)
     have KK6 := Lib.hid fun (w_ : World) (hSw : BelS _ w_) => And.intro (hSw.c x0) (And.intro (hSw.c x1) (And.intro (hSw.c x2) (And.intro (hSw.c x3) (hSw.c x4))))
     refine tk KK6 0 12 J0 ?_
     try simp only [aS]
     refine tk KK6 1 13 J0 ?_
     try simp only [aS]
     refine tk KK6 2 14 J0 ?_
     try simp only [aS]
     refine tk KK6 3 15 J0 ?_
     try simp only [aS]
     refine wpAnyH_ready (rs := [4]) (by kernel_rfl) (by simp) ?_
     refine AllReadyH.cons rfl (fun K hK => ?_) AllReadyH.nil
     go_simp
     refine (HCH.out _ (J0)).mono ?_
     rintro e wq1 ⟨Ah, ch, rfl, hq1⟩
     have J01 := J0.below hq1
     clear hq1
     refine hK.out _ _ J01 (fun _ => ?_)
     clear hK
     try simp only [aS]
     refine tk KK6 5 17 J01 ?_
     try simp only [aS]
     refine tk KK6 6 18 J01 ?_
     try simp only [aS]
     refine tk KK6 7 19 J01 ?_
     try simp only [aS]
     refine tk KK6 8 20 J01 ?_
     try simp only [aS]
     refine tk KK6 9 21 J01 ?_
     try simp only [aS]
     refine tk KK6 10 22 J01 ?_
     try simp only [aS]
     refine tk KK6 11 23 J01 ?_
     try simp only [aS]
     refine tk KK6 12 24 J01 ?_
     try simp only [aS]
     refine tk KK6 13 25 J01 ?_
     try simp only [aS]
     refine tk KK6 14 26 J01 ?_
     try simp only [aS]
     refine tk KK6 15 27 J01 ?_
     try simp only [aS]
     refine tk KK6 16 28 J01 ?_
     try simp only [aS]
     refine tk KK6 17 29 J01 ?_
     try simp only [aS]
     refine tk KK6 18 30 J01 ?_
     try simp only [aS]
     refine tk KK6 19 31 J01 ?_
     try simp only [aS]
     refine tk KK6 20 32 J01 ?_
     try simp only [aS]
     refine tk KK6 21 33 J01 ?_
     try simp only [aS]
     refine tk KK6 22 34 J01 ?_
     try simp only [aS]
     refine tk KK6 23 35 J01 ?_
     try simp only [aS]
     refine tk KK6 24 36 J01 ?_
     try simp only [aS]
     refine tk KK6 25 37 J01 ?_
     try simp only [aS]
     refine tk KK6 26 38 J01 ?_
     try simp only [aS]
     refine tk KK6 27 39 J01 ?_
     try simp only [aS]
     refine heldN_done (by kernel_rfl) ?_ _
     have IE := Lib.hid (I1.out.below J01.b)
     have y0 := IE.out.res
     have y1 := IE.out.fz
     clear J0 J01 x0 x1 x2 x3 x4
     gi_wp2_with fail
     obtain ⟨p0, -, bb'⟩ := IE.out.ret false
     have hbf : bb = false := by
      cases bb
      ·rfl
      ·exact absurd (HBB.out.1 rfl) (fun h => H4.out h.2.2.2.1)
     exact ⟨.bool false, by simp [results, Try.results87, go_sem, p0], by rw [hbf], bb'⟩
   ·have h3b : ((s.leaks.length : Int) != (nt : Int)) = true := (neqB _ _).1.2 h3
    have H3 := Lib.hid h3
    clear h1 h2 h3
    gi_wp2_with fail
    refine wpIn_region_held open_wide (S := BelS w1) (by kernel_rfl) (by kernel_rfl) (BelS.drew0 _) (fun J0 => ?_)
    have KK7 := Lib.hid fun (w_ : World) (hSw : BelS _ w_) => And.intro (hSw.c x0) (And.intro (hSw.c x1) (And.intro (hSw.c x2) (And.intro (hSw.c x3) (hSw.c x4))))
    refine tk KK7 0 12 J0 ?_
    try simp only [aS]
    refine tk KK7 1 13 J0 ?_
    try simp only [aS]
    refine tk KK7 2 14 J0 ?_
    try simp only [aS]
    refine tk KK7 3 15 J0 ?_
    try simp only [aS]
    refine wpAnyH_ready (rs := [4]) (by kernel_rfl) (by simp) ?_
    refine AllReadyH.cons rfl (fun K hK => ?_) AllReadyH.nil
    go_simp
    refine (HCH.out _ (J0)).mono ?_
    rintro e wq1 ⟨Ah, ch, rfl, hq1⟩
    have J01 := J0.below hq1
    clear hq1
    refine hK.out _ _ J01 (fun _ => ?_)
    clear hK
    try simp only [aS]
    refine tk KK7 5 17 J01 ?_
    try simp only [aS]
    refine tk KK7 6 18 J01 ?_
    try simp only [aS]
    refine tk KK7 7 19 J01 ?_
    try simp only [aS]
    refine tk KK7 8 20 J01 ?_
    try simp only [aS]
    refine tk KK7 9 21 J01 ?_
    try simp only [aS]
    refine tk KK7 10 22 J01 ?_
    try simp only [aS]
    refine tk KK7 11 23 J01 ?_
    try simp only [aS]
    refine tk KK7 12 24 J01 ?_
    try simp only [aS]
    refine tk KK7 13 25 J01 ?_
    try simp only [aS]
    refine tk KK7 14 26 J01 ?_
    try simp only [aS]
    refine tk KK7 15 27 J01 ?_
    try simp only [aS]
    refine tk KK7 16 28 J01 ?_
    try simp only [aS]
    refine tk KK7 17 29 J01 ?_
    try simp only [aS]
    refine tk KK7 18 30 J01 ?_
    try simp only [aS]
    refine tk KK7 19 31 J01 ?_
    try simp only [aS]
    refine tk KK7 20 32 J01 ?_
    try simp only [aS]
    refine tk KK7 21 33 J01 ?_
    try simp only [aS]
    refine sw 22 34 J01 ?_
    try simp only [aS]
    refine sw 23 35 J01 ?_
    try simp only [aS]
    refine sw 24 36 J01 ?_
    try simp only [aS]
    refine sw 25 37 J01 ?_
    try simp only [aS]
    refine sw 26 38 J01 ?_
    try simp only [aS]
    refine tk KK7 27 39 J01 ?_
    try simp only [aS]
    refine heldN_done (by kernel_rfl) ?_ _
    have IE := Lib.hid (I1.out.below J01.b)
    have y0 := IE.out.res
    have y1 := IE.out.fz
    clear J0 J01 x0 x1 x2 x3 x4
    gi_wp2_with fail
    obtain ⟨p0, -, bb'⟩ := IE.out.ret false
    have hbf : bb = false := by
     cases bb
     ·rfl
     ·exact absurd (HBB.out.1 rfl) (fun h => H3.out h.2.2.1)
    exact ⟨.bool false, by simp [results, Try.results87, go_sem, p0], by rw [hbf], bb'⟩
  ·have h2b : ((s.boards.length : Int) != (nt : Int)) = true := (neqB _ _).1.2 h2
   have H2 := Lib.hid h2
   clear h1 h2
   gi_wp2_with fail
   refine wpIn_region_held open_wide (S := BelS w1) (by kernel_rfl) (by kernel_rfl) (BelS.drew0 _) (fun J0 => ?_)
   have KK8 := Lib.hid fun (w_ : World) (hSw : BelS _ w_) => And.intro (hSw.c x0) (And.intro (hSw.c x1) (And.intro (hSw.c x2) (And.intro (hSw.c x3) (hSw.c x4))))
   refine tk KK8 0 12 J0 ?_
   try simp only [aS]
   refine tk KK8 1 13 J0 ?_
   try simp only [aS]
   refine tk KK8 2 14 J0 ?_
   try simp only [aS]
   refine tk KK8 3 15 J0 ?_
   try simp only [aS]
   refine wpAnyH_ready (rs := [4]) (by kernel_rfl) (by simp) ?_
   refine AllReadyH.cons rfl (fun K hK => ?_) AllReadyH.nil
   go_simp
   refine (HCH.out _ (J0)).mono ?_
   rintro e wq1 ⟨Ah, ch, rfl, hq1⟩
   have J01 := J0.below hq1
   clear hq1
   refine hK.out _ _ J01 (fun _ => ?_)
   clear hK
   try simp only [aS]
   refine tk KK8 5 17 J01 ?_
   try simp only [aS]
   refine tk KK8 6 18 J01 ?_
   try simp only [aS]
   refine tk KK8 7 19 J01 ?_
   try simp only [aS]
   refine tk KK8 8 20 J01 ?_
   try simp only [aS]
   refine tk KK8 9 21 J01 ?_
   try simp only [aS]
   refine tk KK8 10 22 J01 ?_
   try simp only [aS]
   refine tk KK8 11 23 J01 ?_
   try simp only [aS]
   refine tk KK8 12 24 J01 ?_
   try simp only [aS]
   refine tk KK8 13 25 J01 ?_
   try simp only [aS]
   refine tk KK8 14 26 J01 ?_
   try simp only [aS]
   refine sw 15 27 J01 ?_
   try simp only [aS]
   refine sw 16 28 J01 ?_
   try simp only [aS]
   refine sw 17 29 J01 ?_
   try simp only [aS]
   refine sw 18 30 J01 ?_
   try simp only [aS]
   refine sw 19 31 J01 ?_
   try simp only [aS]
   refine tk KK8 20 32 J01 ?_
   try simp only [aS]
   refine tk KK8 21 33 J01 ?_
   try simp only [aS]
   refine sw 22 34 J01 ?_
   try simp only [aS]
   refine sw 23 35 J01 ?_
   try simp only [aS]
   refine sw 24 36 J01 ?_
   try simp only [aS]
   refine sw 25 37 J01 ?_
   try simp only [aS]
   refine sw 26 38 J01 ?_
   try simp only [aS]
   refine tk KK8 27 39 J01 ?_
   try simp only [aS]
   refine heldN_done (by kernel_rfl) ?_ _
   have IE := Lib.hid (I1.out.below J01.b)
   have y0 := IE.out.res
   have y1 := IE.out.fz
   clear J0 J01 x0 x1 x2 x3 x4
   gi_wp2_with fail
   obtain ⟨p0, -, bb'⟩ := IE.out.ret false
   have hbf : bb = false := by
    cases bb
    ·rfl
    ·exact absurd (HBB.out.1 rfl) (fun h => H2.out h.2.1)
   exact ⟨.bool false, by simp [results, Try.results87, go_sem, p0], by rw [hbf], bb'⟩
 ·have h1b : ((s.river.length : Int) != (nh : Int)) = true := (neqB _ _).1.2 h1
  have H1 := Lib.hid h1
  clear h1
  gi_wp2_with fail
  refine wpIn_region_held open_wide (S := BelS w1) (by kernel_rfl) (by kernel_rfl) (BelS.drew0 _) (fun J0 => ?_)
  have KK9 := Lib.hid fun (w_ : World) (hSw : BelS _ w_) => And.intro (hSw.c x0) (And.intro (hSw.c x1) (And.intro (hSw.c x2) (And.intro (hSw.c x3) (hSw.c x4))))
  refine tk KK9 0 12 J0 ?_
  try simp only [aS]
  refine tk KK9 1 13 J0 ?_
  try simp only [aS]
  refine tk KK9 2 14 J0 ?_
  try simp only [aS]
  refine tk KK9 3 15 J0 ?_
  try simp only [aS]
  refine wpAnyH_ready (rs := [4]) (by kernel_rfl) (by simp) ?_
  refine AllReadyH.cons rfl (fun K hK => ?_) AllReadyH.nil
  go_simp
  refine (HCH.out _ (J0)).mono ?_
  rintro e wq1 ⟨Ah, ch, rfl, hq1⟩
  have J01 := J0.below hq1
  clear hq1
  refine hK.out _ _ J01 (fun _ => ?_)
  clear hK
  try simp only [aS]
  refine tk KK9 5 17 J01 ?_
  try simp only [aS]
  refine tk KK9 6 18 J01 ?_
  try simp only [aS]
  refine tk KK9 7 19 J01 ?_
  try simp only [aS]
  refine sw 8 20 J01 ?_
  try simp only [aS]
  refine sw 9 21 J01 ?_
  try simp only [aS]
  refine sw 10 22 J01 ?_
  try simp only [aS]
  refine sw 11 23 J01 ?_
  try simp only [aS]
  refine sw 12 24 J01 ?_
  try simp only [aS]
  refine tk KK9 13 25 J01 ?_
  try simp only [aS]
  refine tk KK9 14 26 J01 ?_
  try simp only [aS]
  refine sw 15 27 J01 ?_
  try simp only [aS]
  refine sw 16 28 J01 ?_
  try simp only [aS]
  refine sw 17 29 J01 ?_
  try simp only [aS]
  refine sw 18 30 J01 ?_
  try simp only [aS]
  refine sw 19 31 J01 ?_
  try simp only [aS]
  refine tk KK9 20 32 J01 ?_
  try simp only [aS]
  refine tk KK9 21 33 J01 ?_
  try simp only [aS]
  refine sw 22 34 J01 ?_
  try simp only [aS]
  refine sw 23 35 J01 ?_
  try simp only [aS]
  refine sw 24 36 J01 ?_
  try simp only [aS]
  refine sw 25 37 J01 ?_
  try simp only [aS]
  refine sw 26 38 J01 ?_
  try simp only [aS]
  refine tk KK9 27 39 J01 ?_
  try simp only [aS]
  refine heldN_done (by kernel_rfl) ?_ _
  have IE := Lib.hid (I1.out.below J01.b)
  have y0 := IE.out.res
  have y1 := IE.out.fz
  clear J0 J01 x0 x1 x2 x3 x4
  gi_wp2_with fail
  obtain ⟨p0, -, bb'⟩ := IE.out.ret false
  have hbf : bb = false := by
   cases bb
   ·rfl
   ·exact absurd (HBB.out.1 rfl) (fun h => H1.out h.1)
  exact ⟨.bool false, by simp [results, Try.results87, go_sem, p0], by rw [hbf], bb'⟩
end Go.Proofs.Ytkoacclbempmdaa
