/- Contract of CheckCase. -/
import Derived.Test.YtkoacclbempmdaaOOD
namespace Go.Proofs.Ytkoacclbempmdaa
open Go.RowKit
attribute [local go_sem] Oper.semAt_some

/-- What is known: the river's spans, and the boards'. -/
structure Ca where
 river : List (Int × Int)
 boards : List (Int × Int)
def RCa (B : Nat) (v : Value) (s : Ca) (w : World) : Prop := ∃ a b, v = .agg #[a, b] ∧ RR enc2 B a s.river w ∧ RR enc2 B b s.boards w
theorem RCa.up {B B' : Nat} {v : Value} {s : Ca} {w w' : World} (h : RCa B v s w) (hB : B ≤ B') (hb : Below B w w') : RCa B' v s w' := by
 obtain ⟨a, b, e, h1, h2⟩ := h
 exact ⟨a, b, e, h1.up hB hb, h2.up hB hb⟩
theorem RCa.form {B : Nat} {v : Value} {s : Ca} {w : World} (h : RCa B v s w) : ∃ A1 c1 A2 c2, v = .agg #[.slice A1 s.river.length c1, .slice A2 s.boards.length c2] := by
 obtain ⟨a, b, rfl, h1, h2⟩ := h
 obtain ⟨A1, c1, rfl⟩ := h1.slice
 obtain ⟨A2, c2, rfl⟩ := h2.slice
 exact ⟨_, _, _, _, rfl⟩
theorem RCa.parts {B : Nat} {a b : Value} {s : Ca} {w : World} (h : RCa B (.agg #[a, b]) s w) : RR enc2 B a s.river w ∧ RR enc2 B b s.boards w := by
 obtain ⟨a', b', e, h1, h2⟩ := h
 simp only [Value.agg.injEq, Array.mk.injEq, List.cons.injEq, and_true] at e
 obtain ⟨rfl, rfl⟩ := e
 exact ⟨h1, h2⟩
/-- A span of a list of spans, in memory. -/
theorem RR.span {B : Nat} {A : Option Addr} {n c : Nat} {l : List (Int × Int)} {w : World} (h : RR enc2 B (.slice A n c) l w) {k : Nat} {x : Int × Int} (hk : l[k]? = some x) : ∃ b o, A = some ⟨b, o, none⟩ ∧ b < B ∧ w.cell? ⟨b, o + k * 2, none⟩ = some (.int .i64 x.1) ∧ w.cell? ⟨b, o + k * 2 + 1, none⟩ = some (.int .i64 x.2) := by
 obtain ⟨b, o, c', e, hb, hc⟩ := h.at_ E2 hk
 simp only [Value.slice.injEq] at e
 obtain ⟨rfl, -, -⟩ := e
 exact ⟨b, o, rfl, hb, hc 0 _ rfl, hc 1 _ rfl⟩
/-- A case that is right for works. -/
structure CaOk (ws : Wk) (s : Ca) : Prop where
 r : s.river.length = (headsL ws).length
 b : s.boards.length = total ws
 rr : ∀ x ∈ s.river, spB 0 1048576 x.1 x.2 = true
 ob : ∀ (i : Nat) (p : Pl) (x : Int × Int), (allP ws)[i]? = some p → s.boards[i]? = some x → spB 0 ((p.o.ps.length : Int) - 1) x.1 x.2 = true
/-- What CheckCase says. -/
def CasIs (ws : Wk) (s : Ca) (d : Int) : Prop := (CheckIs ws d ∧ d ≠ 0) ∨ (CheckIs ws 0 ∧ ¬ CaOk ws s ∧ d = 1) ∨ (CheckIs ws 0 ∧ CaOk ws s ∧ d = 0)
theorem CasIs.exists_ (ws : Wk) (s : Ca) : ∃ d, CasIs ws s d := by
 obtain ⟨d, hd⟩ := CheckIs.exists_ ws
 by_cases h : d = 0
 ·subst h
  by_cases h2 : CaOk ws s
  ·exact ⟨0, .inr (.inr ⟨hd, h2, rfl⟩)⟩
  ·exact ⟨1, .inr (.inl ⟨hd, h2, rfl⟩)⟩
 ·exact ⟨d, .inl ⟨hd, h⟩⟩
theorem CasIs.ok {ws : Wk} {s : Ca} (h : CasIs ws s 0) : WOk ws ∧ CaOk ws s := by
 rcases h with ⟨_, h⟩ | ⟨_, _, h⟩ | ⟨h1, h2, _⟩
 ·exact absurd rfl h
 ·omega
 ·exact ⟨h1.ok, h2⟩
theorem CasIs.chk {ws : Wk} {s : Ca} {d : Int} (h : CasIs ws s d) : ∃ c, CheckIs ws c ∧ (c ≠ 0 → d = c) ∧ (c = 0 → (d = 0 ↔ CaOk ws s) ∧ (d = 0 ∨ d = 1)) := by
 rcases h with ⟨h1, h⟩ | ⟨h0, h1, h⟩ | ⟨h1, h2, h⟩
 ·exact ⟨d, h1, fun _ => rfl, fun h' => absurd h' h⟩
 ·exact ⟨0, h0, fun h' => absurd rfl h', fun _ => ⟨⟨fun h' => by omega, fun h' => absurd h' h1⟩, .inr h⟩⟩
 ·exact ⟨0, h1, fun h' => absurd rfl h', fun _ => ⟨⟨fun _ => h2, fun _ => h⟩, .inl h⟩⟩
/-- What CheckCase keeps. -/
structure CcS (w : World) (v a b : Value) (W : World) : Prop where
 wk : W.cell? ⟨w.heap.size, 0, none⟩ = some v
 r : W.cell? ⟨w.heap.size + 1, 0, none⟩ = some a
 b : W.cell? ⟨w.heap.size + 1, 1, none⟩ = some b
 res : W.cell? ⟨w.heap.size + 1 + 1, 0, none⟩ = some (.int .i64 0)
 fz : W.frozen? ⟨w.heap.size + 1 + 1, 0, none⟩ = false
 bel : Below w.heap.size w W
theorem CcS.siz {w W : World} {v a b : Value} (h : CcS w v a b W) : w.heap.size + 3 ≤ W.heap.size := World.block_lt_of_cell? _ _ h.res
theorem CcS.grown {w W W' : World} {v a b : Value} {bs : List Nat} (h : CcS w v a b W) (hg : GrownL bs W W') (hn : ∀ k ∈ bs, w.heap.size + 3 ≤ k) : CcS w v a b W' := by
 have nb : ∀ k, k ≤ w.heap.size + 2 → k ∉ bs := fun k hk hm => by have := hn k hm; omega
 exact ⟨hg.cell h.wk (nb _ (by show w.heap.size ≤ _; omega)), hg.cell h.r (nb _ (by show w.heap.size + 1 ≤ _; omega)), hg.cell h.b (nb _ (by show w.heap.size + 1 ≤ _; omega)),
  hg.cell h.res (nb _ (by show w.heap.size + 2 ≤ _; omega)), (World.frozen?_of_block (hg.block _ (World.block_lt_of_cell? _ _ h.res) (nb _ (by show w.heap.size + 2 ≤ _; omega)))).trans h.fz, h.bel.trans (hg.below (fun b hb => by have := hn b hb; omega) h.bel.size)⟩
theorem CcS.below {w W W' : World} {v a b : Value} (h : CcS w v a b W) (hb : Below W.heap.size W W') : CcS w v a b W' := h.grown (GrownL.of_below (bs := []) hb) (by simp)
theorem CcS.ret {w W : World} {v a b : Value} (h : CcS w v a b W) (x : Int) : (W.setCell ⟨w.heap.size + 1 + 1, 0, none⟩ (.int .i64 x)).cell? ⟨w.heap.size + 1 + 1, 0, none⟩ = some (.int .i64 x) ∧ GrownL [w.heap.size + 2] W (W.setCell ⟨w.heap.size + 1 + 1, 0, none⟩ (.int .i64 x)) ∧ Below w.heap.size w (W.setCell ⟨w.heap.size + 1 + 1, 0, none⟩ (.int .i64 x)) := by
 have g : GrownL [w.heap.size + 2] W (W.setCell ⟨w.heap.size + 1 + 1, 0, none⟩ (.int .i64 x)) := GrownL.set _ _ _ (by simp)
 exact ⟨World.cell?_setCell_same' _ _ _ (by rw [h.res]; rfl), g, h.bel.trans (g.below (by simp) h.bel.size)⟩

set_option maxHeartbeats 16000000 in
set_option maxRecDepth 1000000 in
theorem CheckCase_any (v cv : Value) (ws : Wk) (s : Ca) (d : Int) (w : World) (h : RK w.heap.size v ws w) (ht : total ws ≤ 1000000) (hs : RCa w.heap.size cv s w) (hd : CasIs ws s d) :
  Calls Try.prog 62 #[.agg #[v], cv] w fun e w' => e = .returned (.int .i64 d) ∧ Below w.heap.size w w' := by
 obtain ⟨A, c, rfl, -⟩ := (show ∃ A c, v = .slice A ws.length c ∧ True by obtain ⟨A, c, e, _⟩ := h; exact ⟨A, c, e, trivial⟩)
 obtain ⟨A1, c1, A2, c2, rfl⟩ := hs.form
 have H := Lib.hid h
 have HS := Lib.hid hs
 obtain ⟨k, hk, hk1, hk2⟩ := hd.chk
 have C0 := Lib.hid fun W (hb : Below w.heap.size w W) => check_any (.slice A ws.length c) ws k W (h.up hb.size hb) ht hk
 have C1 := Lib.hid fun W (hb : Below w.heap.size w W) => count_any A ws.length c ws W (h.up hb.size hb) ht
 have C2 := Lib.hid fun (hw : WOk ws) W (hb : Below w.heap.size w W) => heads_any A ws.length c ws W (h.up hb.size hb) hw
 have HK0 := Lib.hid (And.intro hk1 hk2)
 have HKC := Lib.hid hk
 clear h hs hk hk1 hk2 hd
 refine (callsIn_wide (n := 3)).1 ?_
 refine callsIn_of_wp_marks Try.func62 rfl trivial ?_ rfl
 simp only [Try.ntmps62, List.size_toArray, List.length_cons, List.length_nil, Nat.reduceAdd, Nat.reduceSub, Array.replicate_succ, Array.replicate_zero, List.push_toArray, List.append_toArray, List.nil_append, List.cons_append]
 gi_wp2_with fail
 refine ⟨trivial, (callsIn_wide.2 (C0.out _ ?b)).mono ?_⟩
 case b => exact (((Below.refl _ _).alloc (Nat.le_refl _) _).alloc (by simp) _).alloc (by simp; omega) _
 rintro e w1 ⟨rfl, b1⟩
 have I1 : Hid (CcS w (.slice A ws.length c) (.slice A1 s.river.length c1) (.slice A2 s.boards.length c2) w1) := Lib.hid (CcS.below ⟨by simp [go_sem], by simp [go_sem], by simp [go_sem], by simp [go_sem], by simp [go_sem], (((Below.refl _ _).alloc (Nat.le_refl _) _).alloc (by simp) _).alloc (by simp; omega) _⟩ b1)
 clear b1 C0
 by_cases hk0 : k = 0
 ·subst hk0
  have HD : Hid ((d = 0 ↔ CaOk ws s) ∧ (d = 0 ∨ d = 1)) := Lib.hid (HK0.out.2 rfl)
  have HW := Lib.hid HKC.out.ok
  have x0 := I1.out.wk
  have x1 := I1.out.r
  have x2 := I1.out.b
  obtain ⟨nh, hnh⟩ : ∃ nh, (headsL ws).length = nh := ⟨_, rfl⟩
  have HCH : Hid (∀ W, BelS w1 W → Calls Try.prog 102 #[.agg #[.slice A ws.length c]] W fun e w' => ∃ A' c', e = .returned (.slice A' nh c') ∧ Below W.heap.size W w') := Lib.hid fun W hb => (C2.out HW.out W (I1.out.bel.trans (hb.b.mono I1.out.bel.size))).mono fun e w' ⟨v, he, ho, hb'⟩ => by
   obtain ⟨A', c', hv, -⟩ := ho.form
   exact ⟨A', c', by rw [he, hv, hnh], hb'⟩
  have HNH := Lib.hid hnh
  obtain ⟨nt, hnt⟩ : ∃ nt, total ws = nt := ⟨_, rfl⟩
  have HCT : Hid (∀ W, BelS w1 W → Calls Try.prog 81 #[.agg #[.slice A ws.length c]] W fun e w' => e = .returned (.int .i64 nt) ∧ Below W.heap.size W w') := Lib.hid fun W hb => by
   rw [← hnt]; exact C1.out W (I1.out.bel.trans (hb.b.mono I1.out.bel.size))
  have HNT := Lib.hid hnt
  clear hnh hnt C1 C2
  by_cases h1 : s.river.length = nh
  ·have h1b : ((s.river.length : Int) != (nh : Int)) = false := (neqB _ _).2.2 h1
   by_cases h2 : s.boards.length = nt
   ·have h2b : ((s.boards.length : Int) != (nt : Int)) = false := (neqB _ _).2.2 h2
    have H1 := Lib.hid h1
    have H2 := Lib.hid h2
    clear h1 h2
    gi_wp2_with fail
    refine wpIn_region_held open_wide (S := BelS w1) (by kernel_rfl) (by kernel_rfl) (BelS.drew0 _) (fun J0 => ?_)
    have KK1 := Lib.hid fun (w_ : World) (hSw : BelS _ w_) => And.intro (hSw.c x0) (And.intro (hSw.c x1) (hSw.c x2))
    refine tk KK1 0 15 J0 ?_
    try simp only [aS]
    refine tk KK1 1 16 J0 ?_
    try simp only [aS]
    refine tk KK1 2 17 J0 ?_
    try simp only [aS]
    refine tk KK1 3 18 J0 ?_
    try simp only [aS]
    refine wpAnyH_ready (rs := [4]) (by kernel_rfl) (by simp) ?_
    refine AllReadyH.cons rfl (fun K hK => ?_) AllReadyH.nil
    go_simp
    refine (HCH.out _ (J0)).mono ?_
    rintro e wq1 ⟨Ah, ch, rfl, hq1⟩
    have J01 := J0.below hq1
    clear hq1
    refine hK.out _ _ J01 (fun _ => ?_)
    clear hK
    try simp only [aS]
    refine tk KK1 5 20 J01 ?_
    try simp only [aS]
    refine tk KK1 6 21 J01 ?_
    try simp only [aS]
    refine tk KK1 7 22 J01 ?_
    try simp only [aS]
    refine tk KK1 8 23 J01 ?_
    try simp only [aS]
    refine tk KK1 9 24 J01 ?_
    try simp only [aS]
    refine tk KK1 10 25 J01 ?_
    try simp only [aS]
    refine tk KK1 11 26 J01 ?_
    try simp only [aS]
    refine wpAnyH_ready (rs := [12]) (by kernel_rfl) (by simp) ?_
    refine AllReadyH.cons rfl (fun K hK => ?_) AllReadyH.nil
    go_simp
    refine (HCT.out _ (J01)).mono ?_
    rintro e wq2 ⟨rfl, hq2⟩
    have J02 := J01.below hq2
    clear hq2
    refine hK.out _ _ J02 (fun _ => ?_)
    clear hK
    try simp only [aS]
    refine tk KK1 13 28 J02 ?_
    try simp only [aS]
    refine tk KK1 14 29 J02 ?_
    try simp only [aS]
    refine heldN_done (by kernel_rfl) ?_ _
    have I5 := Lib.hid (I1.out.below J02.b)
    clear x0 x1 x2 J0 J01 J02 h1b h2b
    have x1 := I5.out.r
    have hrf : s.river.length ≤ 1000 := by have := headsL_len HW.out; have := H1.out; have := HNH.out; omega
    have hrf0 : (s.river.length : Int) ≤ 1000 := by omega
    gi_wp2_with fail
    gi_loopw [33] (fun u wr => ∃ i : Nat, u = .int .i64 i ∧ i ≤ s.river.length ∧ (∀ (j : Nat) x, j < i → s.river[j]? = some x → spB 0 1048576 x.1 x.2 = true) ∧ CcS w (.slice A ws.length c) (.slice A1 s.river.length c1) (.slice A2 s.boards.length c2) wr) (fun u _ => s.river.length - (intOf u).toNat)
    case atStart => exact ⟨0, rfl, by omega, fun j x hj => by omega, I5.out⟩
    case round =>
     obtain ⟨i, rfl, hi, hno, hS⟩ := hrel
     have SS := Lib.hid hS
     have HNO := Lib.hid hno
     clear hS hno x1
     by_cases hil : i < s.river.length
     ·have hi0 : (i : Int) < (s.river.length : Int) := by omega
      obtain ⟨⟨x1, x2⟩, hx⟩ : ∃ x, s.river[i]? = some x := ⟨_, List.getElem?_eq_getElem hil⟩
      have HX := Lib.hid hx
      obtain ⟨br, or_, rfl, hbr, q1, q2⟩ := (HS.out.parts.1.up SS.out.bel.size SS.out.bel).span hx
      simp only at q1 q2
      clear hx
      gi_wp2_with fail
      obtain ⟨W8, hW8⟩ : ∃ W8, wr.alloc (.cells #[.int .i64 x1, .int .i64 x2] 40) = W8 := ⟨_, rfl⟩
      have u0 : W8.cell? ⟨wr.heap.size, 0, none⟩ = some (.int .i64 x1) := by rw [← hW8]; simp [go_sem]
      have u1 : W8.cell? ⟨wr.heap.size, 1, none⟩ = some (.int .i64 x2) := by rw [← hW8]; simp [go_sem]
      have S8 := Lib.hid (SS.out.below (W' := W8) (by rw [← hW8]; exact (Below.refl _ _).alloc (Nat.le_refl _) _))
      rw [hW8]
      clear hW8 q1 q2
      refine wpIn_region_held open_wide (S := BelS W8) (by kernel_rfl) (by kernel_rfl) (BelS.drew0 _) (fun J0 => ?_)
      refine tw 0 37 J0 ?_ (hy := by intro w' hSw; have q0 := hSw.c u0; have q1 := hSw.c u1; go_simp; try with_reducible rfl)
      try simp only [aS]
      refine wpAnyH_ready (rs := [1]) (by kernel_rfl) (by simp) ?_
      refine AllReadyH.cons rfl (fun K hK => ?_) AllReadyH.nil
      go_simp
      refine (flows_any _).mono ?_
      rintro e wq1 ⟨rfl, hq1⟩
      have J01 := J0.below hq1
      clear hq1
      refine hK.out _ _ J01 (fun _ => ?_)
      clear hK
      try simp only [aS]
      refine wpAnyH_ready (rs := [2]) (by kernel_rfl) (by simp) ?_
      refine AllReadyH.cons rfl (fun K hK => ?_) AllReadyH.nil
      go_simp
      refine (isWithin_any x1 x2 0 1048576 _).mono ?_
      rintro e wq2 ⟨rfl, hq2⟩
      have J02 := J01.below hq2
      clear hq2
      refine hK.out _ _ J02 (fun _ => ?_)
      clear hK
      try simp only [aS]
      refine tw 3 40 J02 ?_ (hy := by intro w' hSw; have q0 := hSw.c u0; have q1 := hSw.c u1; go_simp; try with_reducible rfl)
      try simp only [aS]
      refine heldN_done (by kernel_rfl) ?_ _
      have S3 := Lib.hid (S8.out.below J02.b)
      clear J0 J01 J02 u0 u1
      obtain ⟨bx, hbx⟩ : ∃ bx, spB 0 1048576 x1 x2 = bx := ⟨_, rfl⟩
      have HBX := Lib.hid hbx
      rw [hbx]
      clear hbx
      cases bx
      ·have y0 := S3.out.res
       have y1 := S3.out.fz
       gi_wp2_with fail
       obtain ⟨p0, -, bb'⟩ := S3.out.ret 1
       have hbf : d = 1 := by
        rcases HD.out.2 with h | h
        ·have := (HD.out.1.1 h).rr _ (List.mem_of_getElem? HX.out)
         rw [HBX.out] at this
         cases this
        ·exact h
       exact ⟨.int .i64 1, by simp [results, Try.results62, go_sem, p0], by rw [hbf], bb'⟩
      ·gi_wp2_with fail
       go_roundw
       case rel => exact ⟨i + 1, by go_num, by omega, fun j y hj hy => by
        rcases Nat.lt_or_ge j i with h | h
        ·exact HNO.out j y h hy
        ·obtain rfl : j = i := by omega
         rw [HX.out] at hy
         cases hy
         exact HBX.out, S3.out⟩
       case measure => show s.river.length - ((i : Int) + 1).toNat < s.river.length - (i : Int).toNat; omega
     ·have hi0 : (s.river.length : Int) ≤ (i : Int) := by omega
      have HRV : Hid (∀ x ∈ s.river, spB 0 1048576 x.1 x.2 = true) := Lib.hid fun x hx => by
       obtain ⟨j, hj⟩ := List.mem_iff_getElem?.1 hx
       exact HNO.out j x (by have := (List.getElem?_eq_some_iff.1 hj).1; omega) hj
      have t0 := SS.out.wk
      clear HNO
      gi_wp2_with fail
      refine ⟨trivial, (callsIn_wide.2 (places_any A ws.length c _)).mono ?_⟩
      rintro e w2 ⟨rfl, rfl⟩
      obtain ⟨W0, hW0⟩ : ∃ W0, wr.alloc (.cells #[.slice A ws.length c] 24) = W0 := ⟨_, rfl⟩
      have hz0 : W0.heap.size = wr.heap.size + 1 := by rw [← hW0]; simp
      have S0 : Hid (CcS w (.slice A ws.length c) (.slice A1 s.river.length c1) (.slice A2 s.boards.length c2) W0) := Lib.hid (by rw [← hW0]; exact SS.out.below ((Below.refl _ _).alloc (Nat.le_refl _) _))
      have K0 : Hid (W0.cell? ⟨wr.heap.size, 0, none⟩ = some (.slice A ws.length c)) := Lib.hid (by rw [← hW0]; simp [go_sem])
      have HZ := Lib.hid hz0
      have HWR : Hid (w.heap.size + 3 ≤ wr.heap.size) := Lib.hid SS.out.siz
      clear hz0 SS t0
      gi_wp2_with fail
      try rw [hW0]
      refine wpIn_rangeP (gf := 132) (lb := #[.pointer (some ⟨wr.heap.size, 0, none⟩)]) rfl enters_places1
       (placesP_seq w W0 wr.heap.size A ws.length c ws H.out (by have := HW.out.tot; omega) (by have := HW.out.len; omega)) (Below.refl _ _) (fun _ => rfl)
       (fun p W => CcS w (.slice A ws.length c) (.slice A1 s.river.length c1) (.slice A2 s.boards.length c2) W ∧ W.cell? ⟨wr.heap.size, 0, none⟩ = some (.slice A ws.length c) ∧ ∀ q ∈ p, ∀ x, s.boards[q.at_]? = some x → spB 0 ((q.o.ps.length : Int) - 1) x.1 x.2 = true) (fun c' _ W => c' = .ret ∧ W.cell? ⟨w.heap.size + 1 + 1, 0, none⟩ = some (.int .i64 1) ∧ Below w.heap.size w W ∧ d = 1) (fun _ _ h => ⟨h.1.bel, h.2.1⟩) ?h0 ?hI ?hIx ?round ?done ?stop
      case h0 =>
       intro W' hb hsz
       exact ⟨S0.out.below hb, (hb.cell (p := ⟨wr.heap.size, 0, none⟩) (by have := HZ.out; show wr.heap.size < _; omega)).trans K0.out, fun q hq => by cases hq⟩
      case hI =>
       rintro p W1 W2 hi hg
       exact ⟨hi.1.grown hg (fun b hb => by have := HZ.out; have := HWR.out; simp at hb; omega), hg.cell hi.2.1 (by have := HZ.out; simp; omega), hi.2.2⟩
      case hIx =>
       rintro c' p W1 W2 ⟨e1, e2, e3, e4⟩ hg
       exact ⟨e1, hg.cell e2 (by have := HZ.out; have := HWR.out; simp; omega), e3.trans (hg.below (fun b hb => by have := HZ.out; have := HWR.out; simp at hb; omega) e3.size), e4⟩
      case round =>
       rintro pre x W ⟨hi, hkw, hoks⟩ hsz hsp
       have HI := Lib.hid hi
       have HK := Lib.hid hkw
       have HOKS := Lib.hid hoks
       obtain ⟨n, hxn, hpre, hnl, hnt⟩ := sp_next hsp
       clear hi hsp hkw hoks hpre hnl
       obtain ⟨xa, xc, xn, x⟩ := x
       dsimp only [encP]
       gi_wp2_with fail
       refine ⟨Keeps.of_below (((Below.refl _ _).alloc (Nat.le_refl _) _).alloc (by simp) _), fun W2 hg2 hl2 => ?_⟩
       obtain ⟨hP, hO, hg, hz2⟩ := po_cells hg2 (by have := HZ.out; omega)
       have I2 := Lib.hid (HI.out.grown hg (fun b hb => by have := HZ.out; have := HWR.out; simp at hb; omega))
       have K2 := Lib.hid (hg.cell HK.out (by have := HZ.out; simp; omega))
       have hat : xa = n := (allP_inv hxn).1
       subst hat
       obtain ⟨⟨lo, hi⟩, hb⟩ : ∃ b, s.boards[xa]? = some b := ⟨_, List.getElem?_eq_getElem (by have := H2.out; have := HNT.out; omega)⟩
       obtain ⟨br, or_, rfl, hbr, qa, qb⟩ := (HS.out.parts.2.up I2.out.bel.size I2.out.bel).span hb
       simp only at qa qb
       have hpl := (HW.out.ou hxn).pu
       simp only at hpl
       have lb : (xa : Int) < (s.boards.length : Int) := by have := (List.getElem?_eq_some_iff.1 hb).1; omega
       have hxa1 : (0 : Int) ≤ (xa : Int) := by omega
       have HXN := Lib.hid hxn
       have HBB := Lib.hid hb
       have o0 := hO.id
       have o1 := hO.into
       have o2 := hO.pv
       have o3 := hO.k0
       have o4 := hO.k1
       have o5 := hO.s0
       have o6 := hO.s1
       have p0 := hP.at_
       simp only at p0
       have t1 := I2.out.b
       clear HI HK hP hO hg hz2 hg2 hl2 hsz hxn hb
       obtain ⟨B1, hB1⟩ : ∃ B1, spB 0 ((x.ps.length : Int) - 1) lo hi = B1 := ⟨_, rfl⟩
       have HB1 := Lib.hid hB1
       rcases B1 with _ | _
       ·gi_wp2_with fail
        refine wpIn_region_held (open_round _) (S := BelS W2) (by kernel_rfl) (by kernel_rfl) (BelS.drew0 _) (fun J0 => ?_)
        have KK2 := Lib.hid fun (w_ : World) (hSw : BelS _ w_) => And.intro (hSw.c o0) (And.intro (hSw.c o1) (And.intro (hSw.c o2) (And.intro (hSw.c o3) (And.intro (hSw.c o4) (And.intro (hSw.c o5) (And.intro (hSw.c o6) (And.intro (hSw.c p0) (And.intro (hSw.c t1) (And.intro (hSw.c qa) (hSw.c qb))))))))))
        refine tk KK2 0 46 J0 ?_
        try simp only [aS]
        refine tk KK2 1 47 J0 ?_
        try simp only [aS]
        refine tk KK2 2 48 J0 ?_
        try simp only [aS]
        refine tk KK2 3 49 J0 ?_
        try simp only [aS]
        refine tk KK2 4 50 J0 ?_
        try simp only [aS]
        refine tk KK2 5 51 J0 ?_
        try simp only [aS]
        refine tk KK2 6 52 J0 ?_
        try simp only [aS]
        refine wpAnyH_ready (rs := [7]) (by kernel_rfl) (by simp) ?_
        refine AllReadyH.cons rfl (fun K hK => ?_) AllReadyH.nil
        go_simp
        refine (boards_any x _ (by omega)).mono ?_
        rintro e wq1 ⟨rfl, hq1⟩
        have J01 := J0.below hq1
        clear hq1
        refine hK.out _ _ J01 (fun _ => ?_)
        clear hK
        try simp only [aS]
        refine wpAnyH_ready (rs := [8]) (by kernel_rfl) (by simp) ?_
        refine AllReadyH.cons rfl (fun K hK => ?_) AllReadyH.nil
        go_simp
        refine (isWithin_any lo hi 0 ((x.ps.length : Int) - 1) _).mono ?_
        rintro e wq2 ⟨rfl, hq2⟩
        have J02 := J01.below hq2
        clear hq2
        refine hK.out _ _ J02 (fun _ => ?_)
        clear hK
        try simp only [aS]
        refine tk KK2 9 55 J02 ?_
        try simp only [aS]
        refine heldN_done (by kernel_rfl) ?_ _
        have IE := Lib.hid (I2.out.below J02.b)
        have KE : Hid (Keeps [W0.heap.size, W0.heap.size + 1] W2 wq2) := Lib.hid (Keeps.of_below J02.b)
        have KW := Lib.hid (BelS.c J02 K2.out)
        have y0 := IE.out.res
        have y1 := IE.out.fz
        clear o0 o1 o2 o3 o4 o5 o6 p0 t1 qa qb J0 J01 J02
        gi_wp2_with fail
        obtain ⟨z0, gz, bb'⟩ := IE.out.ret 1
        refine ⟨KE.out.trans (Keeps.of_grown gz (fun o ho hm => by have := HZ.out; have := HWR.out; simp at ho hm; omega)), rfl, z0, bb', ?_⟩
        rcases HD.out.2 with h | h
        ·have h := (HD.out.1.1 h).ob _ _ _ HXN.out HBB.out
         rw [HB1.out] at h
         cases h
        ·exact h
       ·gi_wp2_with fail
        refine wpIn_region_held (open_round _) (S := BelS W2) (by kernel_rfl) (by kernel_rfl) (BelS.drew0 _) (fun J0 => ?_)
        have KK3 := Lib.hid fun (w_ : World) (hSw : BelS _ w_) => And.intro (hSw.c o0) (And.intro (hSw.c o1) (And.intro (hSw.c o2) (And.intro (hSw.c o3) (And.intro (hSw.c o4) (And.intro (hSw.c o5) (And.intro (hSw.c o6) (And.intro (hSw.c p0) (And.intro (hSw.c t1) (And.intro (hSw.c qa) (hSw.c qb))))))))))
        refine tk KK3 0 46 J0 ?_
        try simp only [aS]
        refine tk KK3 1 47 J0 ?_
        try simp only [aS]
        refine tk KK3 2 48 J0 ?_
        try simp only [aS]
        refine tk KK3 3 49 J0 ?_
        try simp only [aS]
        refine tk KK3 4 50 J0 ?_
        try simp only [aS]
        refine tk KK3 5 51 J0 ?_
        try simp only [aS]
        refine tk KK3 6 52 J0 ?_
        try simp only [aS]
        refine wpAnyH_ready (rs := [7]) (by kernel_rfl) (by simp) ?_
        refine AllReadyH.cons rfl (fun K hK => ?_) AllReadyH.nil
        go_simp
        refine (boards_any x _ (by omega)).mono ?_
        rintro e wq1 ⟨rfl, hq1⟩
        have J01 := J0.below hq1
        clear hq1
        refine hK.out _ _ J01 (fun _ => ?_)
        clear hK
        try simp only [aS]
        refine wpAnyH_ready (rs := [8]) (by kernel_rfl) (by simp) ?_
        refine AllReadyH.cons rfl (fun K hK => ?_) AllReadyH.nil
        go_simp
        refine (isWithin_any lo hi 0 ((x.ps.length : Int) - 1) _).mono ?_
        rintro e wq2 ⟨rfl, hq2⟩
        have J02 := J01.below hq2
        clear hq2
        refine hK.out _ _ J02 (fun _ => ?_)
        clear hK
        try simp only [aS]
        refine tk KK3 9 55 J02 ?_
        try simp only [aS]
        refine heldN_done (by kernel_rfl) ?_ _
        have IE := Lib.hid (I2.out.below J02.b)
        have KE : Hid (Keeps [W0.heap.size, W0.heap.size + 1] W2 wq2) := Lib.hid (Keeps.of_below J02.b)
        have KW := Lib.hid (BelS.c J02 K2.out)
        clear o0 o1 o2 o3 o4 o5 o6 p0 t1 qa qb J0 J01 J02
        gi_wp2_with fail
        refine ⟨KE.out, IE.out, KW.out, fun q hq => ?_⟩
        rcases List.mem_append.1 hq with hq | hq
        ·exact HOKS.out q hq
        ·rw [List.mem_singleton] at hq
         subst hq
         intro y hy
         simp only at hy
         rw [HBB.out] at hy
         cases hy
         exact HB1.out
      case done =>
       rintro xs W hS ⟨hi, hk0, hoks⟩ hK
       obtain rfl : xs = allP ws := hS
       have HI := Lib.hid hi
       have HKK := Lib.hid hK
       have hbt : d = 0 := HD.out.1.2 ⟨by rw [HNH.out]; exact H1.out, by rw [HNT.out]; exact H2.out, HRV.out, fun i p x hp hx => hoks p (List.mem_of_getElem? hp) x (by rw [(allP_inv hp).1]; exact hx)⟩
       have HBT := Lib.hid hbt
       have y0 := hi.res
       have y1 := hi.fz
       clear hi hK hk0 hoks hbt
       gi_wp2_with fail
       obtain ⟨p0, g1, bb'⟩ := HI.out.ret 0
       have gp : GrownL [W0.heap.size] _ _ := GrownL.putObj (bs := [W0.heap.size]) (W.setCell ⟨w.heap.size + 1 + 1, 0, none⟩ (.int .i64 0)) W0.heap.size (.deferred none) (by simp)
       have p1 := gp.cell p0 (by have := HZ.out; have := HWR.out; simp; omega)
       have hk := (g1.block W0.heap.size (Array.getElem?_eq_some_iff.1 HKK.out).1 (by have := HZ.out; have := HWR.out; simp; omega)).trans HKK.out
       refine ⟨by simp, .inl ⟨_, _, rfl, run_takeDeferred hk, ?_⟩⟩
       exact ⟨.int .i64 0, by simp [results, Try.results62, go_sem, p1], by rw [HBT.out], bb'.trans (gp.below (by have := HZ.out; have := HWR.out; simp; omega) bb'.size)⟩
      case stop =>
       rintro c' pre W hS ⟨rfl, hr, hB, hbf⟩ hK
       have gp : GrownL [W0.heap.size] _ _ := GrownL.putObj (bs := [W0.heap.size]) W W0.heap.size (.deferred none) (by simp)
       have p0 := gp.cell hr (by have := HZ.out; have := HWR.out; simp; omega)
       have HKK := Lib.hid hK
       have HBE := Lib.hid hB
       have HBF := Lib.hid hbf
       clear hr hK hB hbf
       gi_wp2_with fail
       refine ⟨by simp, .inl ⟨_, _, rfl, run_takeDeferred HKK.out, ?_⟩⟩
       exact ⟨.int .i64 1, by simp [results, Try.results62, go_sem, p0], by rw [HBF.out], HBE.out.trans (gp.below (by have := HZ.out; have := HWR.out; simp; omega) HBE.out.size)⟩
   ·have h2b : ((s.boards.length : Int) != (nt : Int)) = true := (neqB _ _).1.2 h2
    have H2 := Lib.hid h2
    clear h1 h2
    gi_wp2_with fail
    refine wpIn_region_held open_wide (S := BelS w1) (by kernel_rfl) (by kernel_rfl) (BelS.drew0 _) (fun J0 => ?_)
    have KK4 := Lib.hid fun (w_ : World) (hSw : BelS _ w_) => And.intro (hSw.c x0) (And.intro (hSw.c x1) (hSw.c x2))
    refine tk KK4 0 15 J0 ?_
    try simp only [aS]
    refine tk KK4 1 16 J0 ?_
    try simp only [aS]
    refine tk KK4 2 17 J0 ?_
    try simp only [aS]
    refine tk KK4 3 18 J0 ?_
    try simp only [aS]
    refine wpAnyH_ready (rs := [4]) (by kernel_rfl) (by simp) ?_
    refine AllReadyH.cons rfl (fun K hK => ?_) AllReadyH.nil
    go_simp
    refine (HCH.out _ (J0)).mono ?_
    rintro e wq1 ⟨Ah, ch, rfl, hq1⟩
    have J01 := J0.below hq1
    clear hq1
    refine hK.out _ _ J01 (fun _ => ?_)
    clear hK
    try simp only [aS]
    refine tk KK4 5 20 J01 ?_
    try simp only [aS]
    refine tk KK4 6 21 J01 ?_
    try simp only [aS]
    refine tk KK4 7 22 J01 ?_
    try simp only [aS]
    refine tk KK4 8 23 J01 ?_
    try simp only [aS]
    refine tk KK4 9 24 J01 ?_
    try simp only [aS]
    refine tk KK4 10 25 J01 ?_
    try simp only [aS]
    refine tk KK4 11 26 J01 ?_
    try simp only [aS]
    refine wpAnyH_ready (rs := [12]) (by kernel_rfl) (by simp) ?_
    refine AllReadyH.cons rfl (fun K hK => ?_) AllReadyH.nil
    go_simp
    refine (HCT.out _ (J01)).mono ?_
    rintro e wq2 ⟨rfl, hq2⟩
    have J02 := J01.below hq2
    clear hq2
    refine hK.out _ _ J02 (fun _ => ?_)
    clear hK
    try simp only [aS]
    refine tk KK4 13 28 J02 ?_
    try simp only [aS]
    refine tk KK4 14 29 J02 ?_
    try simp only [aS]
    refine heldN_done (by kernel_rfl) ?_ _
    have IE := Lib.hid (I1.out.below J02.b)
    have y0 := IE.out.res
    have y1 := IE.out.fz
    clear J0 J01 J02 x0 x1 x2
    gi_wp2_with fail
    obtain ⟨p0, -, bb'⟩ := IE.out.ret 1
    have hbf : d = 1 := by
     rcases HD.out.2 with h | h
     ·exact absurd (HD.out.1.1 h) (fun h => H2.out (by rw [← HNT.out]; exact h.b))
     ·exact h
    exact ⟨.int .i64 1, by simp [results, Try.results62, go_sem, p0], by rw [hbf], bb'⟩
  ·have h1b : ((s.river.length : Int) != (nh : Int)) = true := (neqB _ _).1.2 h1
   have H1 := Lib.hid h1
   clear h1
   gi_wp2_with fail
   refine wpIn_region_held open_wide (S := BelS w1) (by kernel_rfl) (by kernel_rfl) (BelS.drew0 _) (fun J0 => ?_)
   have KK5 := Lib.hid fun (w_ : World) (hSw : BelS _ w_) => And.intro (hSw.c x0) (And.intro (hSw.c x1) (hSw.c x2))
   refine tk KK5 0 15 J0 ?_
   try simp only [aS]
   refine tk KK5 1 16 J0 ?_
   try simp only [aS]
   refine tk KK5 2 17 J0 ?_
   try simp only [aS]
   refine tk KK5 3 18 J0 ?_
   try simp only [aS]
   refine wpAnyH_ready (rs := [4]) (by kernel_rfl) (by simp) ?_
   refine AllReadyH.cons rfl (fun K hK => ?_) AllReadyH.nil
   go_simp
   refine (HCH.out _ (J0)).mono ?_
   rintro e wq1 ⟨Ah, ch, rfl, hq1⟩
   have J01 := J0.below hq1
   clear hq1
   refine hK.out _ _ J01 (fun _ => ?_)
   clear hK
   try simp only [aS]
   refine tk KK5 5 20 J01 ?_
   try simp only [aS]
   refine tk KK5 6 21 J01 ?_
   try simp only [aS]
   refine tk KK5 7 22 J01 ?_
   try simp only [aS]
   refine sw 8 23 J01 ?_
   try simp only [aS]
   refine sw 9 24 J01 ?_
   try simp only [aS]
   refine sw 10 25 J01 ?_
   try simp only [aS]
   refine sw 11 26 J01 ?_
   try simp only [aS]
   refine sw 12 27 J01 ?_
   try simp only [aS]
   refine sw 13 28 J01 ?_
   try simp only [aS]
   refine tk KK5 14 29 J01 ?_
   try simp only [aS]
   refine heldN_done (by kernel_rfl) ?_ _
   have IE := Lib.hid (I1.out.below J01.b)
   have y0 := IE.out.res
   have y1 := IE.out.fz
   clear J0 J01 x0 x1 x2
   gi_wp2_with fail
   obtain ⟨p0, -, bb'⟩ := IE.out.ret 1
   have hbf : d = 1 := by
    rcases HD.out.2 with h | h
    ·exact absurd (HD.out.1.1 h) (fun h => H1.out (by rw [← HNH.out]; exact h.r))
    ·exact h
   exact ⟨.int .i64 1, by simp [results, Try.results62, go_sem, p0], by rw [hbf], bb'⟩
 ·have hdk : d = k := HK0.out.1 hk0
  have HDK := Lib.hid hdk
  have hkb : (k != 0) = true := by rw [bne_iff_ne]; exact hk0
  have y0 := I1.out.res
  have y1 := I1.out.fz
  clear hk0 hdk
  gi_wp2_with fail
  obtain ⟨p0, -, bb'⟩ := I1.out.ret k
  exact ⟨.int .i64 k, by simp [results, Try.results62, go_sem, p0], by rw [HDK.out], bb'⟩
end Go.Proofs.Ytkoacclbempmdaa
