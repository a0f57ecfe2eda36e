/- The law CarrierRests holds for every input: for all works of at most 6 carriers and 14 outlets, or too many, a case (at most 100 elements in each list) and an ID, Rests returns what the specification returns. No condition beside the row's own. -/
import Derived.Test.YtkoacclbempmdaaOOK
import Derived.Test.YtkoacclbempmdaaQBA
import Derived.Test.YtkoacclbempmdaaGZD
import Derived.Test.YtkoacclbempmdaaOO6
import Derived.Test.YtkoacclbempmdaaGJ
import Derived.Test.YtkoacclbempmdaaQBB
import Derived.Test.YtkoacclbempmdaaGZF
import Derived.Test.YtkoacclbempmdaaGZC
import Derived.Test.YtkoacclbempmdaaGL
import Derived.Test.YtkoacclbempmdaaGK
import Derived.Test.YtkoacclbempmdaaGZL
namespace Go.Proofs.Ytkoacclbempmdaa
open Go.RowKit

set_option maxHeartbeats 16000000 in
set_option maxRecDepth 1000000 in
theorem rcased_any (A : Option Addr) (c : Nat) (cv : Value) (ws : Wk) (s : Ca) (d : Int) (w : World) (h : RK w.heap.size (.slice A ws.length c) ws w) (hs : RCa w.heap.size cv s w) (hw : WOk ws) (hd : (CaOk ws s ∧ d = 0) ∨ (¬ CaOk ws s ∧ d = 1)) :
  Calls Try.prog 123 #[.agg #[.slice A ws.length c], cv] w fun e w' => e = .returned (.int .i64 d) ∧ Below w.heap.size w w' := by
 obtain ⟨A1, c1, A2, c2, rfl⟩ := hs.form
 have H := Lib.hid h
 have HS := Lib.hid hs
 have HW := Lib.hid hw
 have HBB := Lib.hid hd
 have ht : total ws ≤ 100000 := by have := hw.tot; omega
 have hln : ws.length ≤ 100000 := by have := hw.len; omega
 have C1 := Lib.hid fun W (hb : Below w.heap.size w W) => routlets_any A ws.length c ws W (h.up hb.size hb) ht
 have C2 := Lib.hid fun W (hb : Below w.heap.size w W) => rheads_any A ws.length c ws W (h.up hb.size hb) ht hln
 have S0 := Lib.hid (CW.new w (.slice A ws.length c) (.slice A1 s.river.length c1) (.slice A2 s.boards.length c2))
 clear h hs hw hd
 go_enter Try.func123, Try.ntmps123
 go_wp2_with fail
 refine (C1.out _ S0.out.bel).mono ?_
 rintro e w2 ⟨lv, rfl, hlv, b1⟩
 have S2 := Lib.hid (S0.out.below b1)
 have RL := Lib.hid (rl_in hlv (H.out.up S0.out.bel.size S0.out.bel) b1 b1.size ht)
 obtain ⟨Al, cl, rfl, -⟩ := hlv.form
 have hol := outs_len ws
 rw [hol] at RL ⊢
 clear hlv b1 ht hln
 have x0 := S2.out.wk
 have x1 := S2.out.ca
 have x2 := S2.out.cb
 obtain ⟨nh, hnh⟩ : ∃ nh, (headsL ws).length = nh := ⟨_, rfl⟩
 obtain ⟨nt, hnt⟩ : ∃ nt, total ws = nt := ⟨_, rfl⟩
 have HNH := Lib.hid hnh
 have HNT := Lib.hid hnt
 have HCH : Hid (∀ W, BelS w2 W → Calls Try.prog 103 #[.agg #[.slice A ws.length c]] W fun e w' => ∃ A' c', e = .returned (.slice A' nh c') ∧ Below W.heap.size W w') := Lib.hid fun W hb => (C2.out W (S2.out.bel.trans (hb.b.mono S2.out.bel.size))).mono fun e w' ⟨v, he, ho, hb'⟩ => by
  obtain ⟨A', c', hv, -⟩ := ho.form
  exact ⟨A', c', by rw [he, hv, hnh], hb'⟩
 rw [hnt] at RL ⊢
 clear hnh hnt hol C1 C2
 go_upto_region 2 with fail
 refine wp_region_held_drew (S := BelS w2) (by kernel_rfl) (BelS.drew0 _) (fun J0 => ?_)
 have KK1 := Lib.hid fun (w_ : World) (hSw : BelS _ w_) => And.intro (hSw.c x0) (And.intro (hSw.c x1) (hSw.c x2))
 refine tk KK1 0 12 J0 ?_
 try simp only [aS]
 refine tk KK1 1 13 J0 ?_
 try simp only [aS]
 refine tk KK1 2 14 J0 ?_
 try simp only [aS]
 refine tk KK1 3 15 J0 ?_
 try simp only [aS]
 refine wpAnyH_ready (rs := [4]) (by kernel_rfl) (by simp) ?_
 refine AllReadyH.cons rfl (fun K hK => ?_) AllReadyH.nil
 go_simp
 refine (HCH.out _ J0).mono ?_
 rintro e wq1 ⟨Ah, ch, rfl, hq1⟩
 have J1 := J0.below hq1
 clear hq1
 refine hK.out _ _ J1 (fun _ => ?_)
 clear hK K
 try simp only [aS]
 refine tk KK1 5 17 J1 ?_
 try simp only [aS]
 by_cases h0 : s.river.length = nh
 ·have h0b : ((s.river.length : Int) != (nh : Int)) = false := (neqB _ _).2.2 h0
  refine tk KK1 6 18 J1 ?_
  try simp only [aS]
  refine tk KK1 7 19 J1 ?_
  try simp only [aS]
  refine tk KK1 8 20 J1 ?_
  try simp only [aS]
  refine tk KK1 9 21 J1 ?_
  try simp only [aS]
  refine tk KK1 10 22 J1 ?_
  try simp only [aS]
  refine tk KK1 11 23 J1 ?_
  try simp only [aS]
  refine tk KK1 12 24 J1 ?_
  try simp only [aS]
  by_cases h1 : s.boards.length = nt
  ·have h1b : ((s.boards.length : Int) != (nt : Int)) = false := (neqB _ _).2.2 h1
   refine tk KK1 13 25 J1 ?_
   try simp only [aS]
   refine tk KK1 14 26 J1 ?_
   try simp only [aS]
   refine wpAnyH_done (by kernel_rfl) ?_ _
   have S3 := Lib.hid (S2.out.below (BelS.b J1))
   have RL := Lib.hid (RL.out.up (BelS.b J1).size (BelS.b J1))
   obtain ⟨w3, hw3⟩ : ∃ w3, wq1 = w3 := ⟨_, rfl⟩
   rw [hw3] at S3 RL ⊢
   clear hw3 x0 x1 x2 J0 J1
   have HBB2 : Hid ((CaOk ws s ∧ d = 0) ∨ (¬ CaOk ws s ∧ d = 1)) := HBB
   have HLN := Lib.hid (And.intro h0 h1)
   have hnr : (s.river.length : Int) ≤ 100000 := by have := HNH.out; have := headsL_len HW.out; omega
   have hntt : (nt : Int) ≤ 60 := by have := HNT.out; have := HW.out.tot; omega
   clear h0 h1 h0b h1b
   go_wp2_with fail
   go_loopw [6] (fun i wr => ∃ k : Nat, i = .int .i64 k ∧ k ≤ s.river.length ∧ (∀ j x, j < k → s.river[j]? = some x → spB 0 1048576 x.1 x.2 = true) ∧ CW w (.slice A ws.length c) (.slice A1 s.river.length c1) (.slice A2 s.boards.length c2) wr ∧ RO wr.heap.size (.slice Al nt cl) (outs ws) wr) (fun i _ => s.river.length - (intOf i).toNat)
   case atStart => exact ⟨0, rfl, by omega, fun j x h => by omega, S3.out, RL.out⟩
   case round =>
    obtain ⟨k, rfl, hk, hok, hS3, hRL⟩ := hrel
    have HOK := Lib.hid hok
    replace S3 := Lib.hid hS3
    replace RL := Lib.hid hRL
    have x1 := S3.out.ca
    clear hok hS3 hRL
    by_cases hkl : k < s.river.length
    ·have hk0 : (k : Int) < (s.river.length : Int) := by omega
     obtain ⟨x, hx⟩ : ∃ x, s.river[k]? = some x := ⟨_, List.getElem?_eq_getElem hkl⟩
     obtain ⟨b, o, rfl, hb, q0, q1⟩ := (HS.out.parts.1.up S3.out.bel.size S3.out.bel).span hx
     have HX := Lib.hid hx
     obtain ⟨lo, hi⟩ := x
     clear hx
     go_wp2_with fail
     refine (rflows_any lo hi _).mono ?_
     rintro e w4 ⟨rfl, b4⟩
     replace S3 := Lib.hid (S3.out.below b4)
     replace RL := Lib.hid (RL.out.up b4.size b4)
     clear b4 q0 q1 x1
     by_cases hin : spB 0 1048576 lo hi = true
     ·rw [hin]
      have HIN := Lib.hid hin
      clear hin
      go_wp2_with fail
      go_roundw
      case rel => exact ⟨k + 1, by go_num, by omega, fun j y hj hy => by
       rcases Nat.lt_or_ge j k with h | h
       ·exact HOK.out j y h hy
       ·obtain rfl : j = k := by omega
        rw [HX.out] at hy
        cases hy
        exact HIN.out, S3.out, RL.out⟩
      case measure => show s.river.length - ((k : Int) + 1).toNat < s.river.length - (k : Int).toNat; omega
     ·rw [Bool.not_eq_true] at hin
      have HF : Hid (d = 1) := Lib.hid (HBB2.out.elim (fun hx => by have := hx.1.rr _ (List.mem_of_getElem? HX.out); simp only at this; rw [hin] at this; cases this) (·.2))
      rw [hin]
      clear hin
      go_wp2_with fail
      go_ret
      exact ⟨by rw [HF.out]; try rfl, S3.out.bel⟩
    ·have hk0 : (s.river.length : Int) ≤ (k : Int) := by omega
     obtain rfl : k = s.river.length := by omega
     go_wp2_with fail
     go_loopw [8] (fun i wx => ∃ k : Nat, i = .int .i64 k ∧ k ≤ nt ∧ (∀ j p x, j < k → (allP ws)[j]? = some p → s.boards[j]? = some x → spB 0 ((p.o.ps.length : Int) - 1) x.1 x.2 = true) ∧ CW w (.slice A ws.length c) (.slice A1 s.river.length c1) (.slice A2 s.boards.length c2) wx ∧ RO wx.heap.size (.slice Al nt cl) (outs ws) wx) (fun i _ => nt - (intOf i).toNat)
     case atStart => exact ⟨0, rfl, by omega, fun j x y h => by omega, S3.out, RL.out⟩
     case round =>
      obtain ⟨k, rfl, hk', hok, hS4, hRL⟩ := hrel
      have HOK2 := Lib.hid hok
      have S4 := Lib.hid hS4
      have RL4 := Lib.hid hRL
      clear hok hS4 hRL
      have x2 := S4.out.cb
      by_cases hkl : k < nt
      ·have hk0 : (k : Int) < (nt : Int) := by omega
       obtain ⟨p, hp⟩ := at_total (ws := ws) (n := k) (by rw [HNT.out]; exact hkl)
       obtain ⟨x, hx⟩ : ∃ x, s.boards[k]? = some x := ⟨_, List.getElem?_eq_getElem (by have := HLN.out.2; omega)⟩
       obtain ⟨b, o, rfl, hb, q0, q1⟩ := (HS.out.parts.2.up S4.out.bel.size S4.out.bel).span hx
       have hn1 : (k : Int) < (s.boards.length : Int) := by have := HLN.out.2; omega
       have HX := Lib.hid hx
       have HP := Lib.hid hp
       obtain ⟨lo, hi⟩ := x
       clear hx
       go_upto_region 14 with fail
       obtain ⟨WA, hWA⟩ : ∃ W, wr.alloc (.cells #[.int .i64 lo, .int .i64 hi] 40) = W := ⟨_, rfl⟩
       have bA : Below wr.heap.size wr WA := by rw [← hWA]; exact (Below.refl _ _).alloc (Nat.le_refl _) _
       have a0 : WA.cell? ⟨wr.heap.size, 0, none⟩ = some (.int .i64 lo) := by rw [← hWA]; simp [go_sem]
       have a1 : WA.cell? ⟨wr.heap.size, 1, none⟩ = some (.int .i64 hi) := by rw [← hWA]; simp [go_sem]
       rw [hWA]
       replace S4 := Lib.hid (S4.out.below bA)
       replace RL4 := Lib.hid (RL4.out.up bA.size bA)
       clear bA hWA q0 q1 x2
       have hpo := (outs_get hp).1
       obtain ⟨b1, o1, hA1, hb1, hc1⟩ := ro_at RL4.out hpo
       subst hA1
       have p2 : WA.cell? ⟨b1, o1 + k * 7 + 2, none⟩ = some (.slice p.o.pa p.o.ps.length p.o.pc) := hc1.pv
       obtain ⟨n, hn⟩ : ∃ n, p.o.ps.length = n := ⟨_, rfl⟩
       rw [hn] at p2
       have HN := Lib.hid hn
       clear hp hpo hc1 hn hb1
       rcases (by omega : (¬ lo < 0 ∧ ¬ hi < lo ∧ ¬ (n : Int) ≤ hi) ∨ lo < 0 ∨ (¬ lo < 0 ∧ hi < lo) ∨ (¬ lo < 0 ∧ ¬ hi < lo ∧ (n : Int) ≤ hi)) with ⟨g0, g1, g2⟩ | g0 | ⟨g0, g1⟩ | ⟨g0, g1, g2⟩
       ·go_quiet (fail)
        go_wp2_with fail
        go_roundw
        case rel => exact ⟨k + 1, by go_num, by omega, fun j q x hj hq hx => by
         rcases Nat.lt_or_ge j k with h | h
         ·exact HOK2.out j q x h hq hx
         ·obtain rfl : j = k := by omega
          rw [HP.out] at hq
          rw [HX.out] at hx
          cases hq
          cases hx
          rw [HN.out, spB_iff]
          simp only
          omega, S4.out.below (below_drewN (Below.refl _ _) _), RL4.out.up (by simp) (below_drewN (Below.refl _ _) _)⟩
        case measure => show nt - ((k : Int) + 1).toNat < nt - (k : Int).toNat; omega
       all_goals
        have HF : Hid (d = 1) := Lib.hid (HBB2.out.elim (fun hx => by have := hx.1.ob k p _ HP.out HX.out; rw [HN.out, spB_iff] at this; simp only at this; omega) (·.2))
        go_quiet (fail)
        go_wp2_with fail
        go_ret
        exact ⟨by rw [HF.out]; try rfl, below_drewN S4.out.bel _⟩
      ·have hk0 : (nt : Int) ≤ (k : Int) := by omega
       obtain rfl : k = nt := by omega
       have HF : Hid (d = 0) := Lib.hid (HBB2.out.elim (·.2) (fun hx => absurd ⟨by rw [HNH.out]; exact HLN.out.1, by rw [HNT.out]; exact HLN.out.2, fun x hx => by
        obtain ⟨i, hi⟩ := List.mem_iff_getElem?.1 hx
        exact HOK.out i x (List.getElem?_eq_some_iff.1 hi).1 hi, fun i p x hi hx => HOK2.out i p x (by have := lt_total hi; rw [HNT.out] at this; exact this) hi hx⟩ hx.1))
       go_wp2_with fail
       go_ret
       exact ⟨by rw [HF.out]; try rfl, S4.out.bel⟩
  ·have h1b : ((s.boards.length : Int) != (nt : Int)) = true := (neqB _ _).1.2 h1
   have HF : Hid (d = 1) := Lib.hid (HBB.out.elim (fun hx => absurd (by have := hx.1.b; have := HNH.out; have := HNT.out; omega) h1) (·.2))
   refine tk KK1 13 25 J1 ?_
   try simp only [aS]
   refine tk KK1 14 26 J1 ?_
   try simp only [aS]
   refine wpAnyH_done (by kernel_rfl) ?_ _
   have BE := Lib.hid (S2.out.bel.trans ((BelS.b J1).mono S2.out.bel.size))
   clear x0 x1 x2
   go_wp2_with fail
   go_ret
   exact ⟨by rw [HF.out]; try rfl, BE.out⟩
 ·have h0b : ((s.river.length : Int) != (nh : Int)) = true := (neqB _ _).1.2 h0
  have HF : Hid (d = 1) := Lib.hid (HBB.out.elim (fun hx => absurd (by have := hx.1.r; have := HNH.out; have := HNT.out; omega) h0) (·.2))
  refine tk KK1 6 18 J1 ?_
  try simp only [aS]
  refine tk KK1 7 19 J1 ?_
  try simp only [aS]
  refine sw 8 20 J1 ?_
  try simp only [aS]
  refine sw 9 21 J1 ?_
  try simp only [aS]
  refine sw 10 22 J1 ?_
  try simp only [aS]
  refine sw 11 23 J1 ?_
  try simp only [aS]
  refine sw 12 24 J1 ?_
  try simp only [aS]
  refine sw 13 25 J1 ?_
  try simp only [aS]
  refine tk KK1 14 26 J1 ?_
  try simp only [aS]
  refine wpAnyH_done (by kernel_rfl) ?_ _
  have BE := Lib.hid (S2.out.bel.trans ((BelS.b J1).mono S2.out.bel.size))
  clear x0 x1 x2
  go_wp2_with fail
  go_ret
  exact ⟨by rw [HF.out]; try rfl, BE.out⟩

set_option maxHeartbeats 8000000 in
set_option maxRecDepth 1000000 in
theorem rCheckCase_any (v cv : Value) (ws : Wk) (s : Ca) (d : Int) (w : World) (h : RK w.heap.size v ws w) (ht : total ws ≤ 100000) (hs : RCa w.heap.size cv s w) (hd : CasIs ws s d) :
  Calls Try.prog 63 #[.agg #[v], cv] w fun e w' => e = .returned (.int .i64 d) ∧ Below w.heap.size w w' := by
 obtain ⟨A, c, rfl, -⟩ := (show ∃ A c, v = .slice A ws.length c ∧ True by obtain ⟨A, c, e, _⟩ := h; exact ⟨A, c, e, trivial⟩)
 obtain ⟨A1, c1, A2, c2, rfl⟩ := hs.form
 have C1 := Lib.hid fun (d : Int) (hc : CheckIs ws d) W (hb : Below w.heap.size w W) => rcheck_any A ws.length c ws d W (h.up hb.size hb) ht hc
 have C2 := Lib.hid fun (hw : WOk ws) (hd : (CaOk ws s ∧ d = 0) ∨ (¬ CaOk ws s ∧ d = 1)) W (hb : Below w.heap.size w W) => rcased_any A c _ ws s d W (h.up hb.size hb) (hs.up hb.size hb) hw hd
 have S0 := Lib.hid (CW.new w (.slice A ws.length c) (.slice A1 s.river.length c1) (.slice A2 s.boards.length c2))
 clear h hs
 have hx : (CheckIs ws d ∧ d ≠ 0) ∨ (CheckIs ws 0 ∧ ((CaOk ws s ∧ d = 0) ∨ (¬ CaOk ws s ∧ d = 1))) := by
  rcases hd with h | ⟨a, b, e⟩ | ⟨a, b, e⟩
  ·exact .inl h
  ·exact .inr ⟨a, .inr ⟨b, e⟩⟩
  ·exact .inr ⟨a, .inl ⟨b, e⟩⟩
 rcases hx with ⟨hc, hd⟩ | ⟨hc, hd⟩
 ·have HC := Lib.hid hc
  have hdb : (d != 0) = true := by rw [bne_iff_ne]; exact hd
  clear hc
  go_enter Try.func63, Try.ntmps63
  go_wp2_with fail
  refine (C1.out d HC.out _ S0.out.bel).mono ?_
  rintro e w1 ⟨rfl, b1⟩
  have S1 := Lib.hid (S0.out.below b1)
  clear b1
  go_wp2_with fail
  go_ret
  exact ⟨rfl, S1.out.bel⟩
 ·have HC := Lib.hid hc
  have HD := Lib.hid hd
  clear hc hd
  go_enter Try.func63, Try.ntmps63
  go_wp2_with fail
  refine (C1.out 0 HC.out _ S0.out.bel).mono ?_
  rintro e w1 ⟨rfl, b1⟩
  have S1 := Lib.hid (S0.out.below b1)
  clear b1
  have x0 := S1.out.wk
  have x1 := S1.out.ca
  have x2 := S1.out.cb
  go_wp2_with fail
  refine (C2.out HC.out.ok HD.out _ S1.out.bel).mono ?_
  rintro e w2 ⟨rfl, b1⟩
  have S2 := Lib.hid (S1.out.below b1)
  clear b1
  go_wp2_with fail
  go_ret
  exact ⟨rfl, S2.out.bel⟩
end Go.Proofs.Ytkoacclbempmdaa

/- Contract of Path. -/
namespace Go.Proofs.Ytkoacclbempmdaa
open Go.RowKit

theorem id_wf {ws : Wk} (hw : WOk ws) {n : Nat} {p : Pl} (hp : (allP ws)[n]? = some p) : (Lit.int .i64 p.o.id).wf = true := by
 have := hw.ou hp
 have h3 := this.i0
 have h4 := this.i1
 have m0 : IntKind.i64.min = -9223372036854775808 := rfl
 have m1 : IntKind.i64.max = 9223372036854775807 := rfl
 simp only [Lit.wf, m0, m1, Bool.and_eq_true, decide_eq_true_eq]
 omega
theorem fst_id {ws : Wk} {id : Int} {n : Nat} {p : Pl} (hf : FstIs (fun o : Ou => o.id) (outs ws) id n) (hp : (allP ws)[n]? = some p) : p.o.id = id := by
 rcases hf with ⟨k, o, ho, he, _, hk⟩ | ⟨_, h⟩
 ·obtain rfl : n = k := by omega
  rw [(outs_get hp).1] at ho
  cases ho
  exact he
 ·omega
theorem byId_all {ws : Wk} (hw : WOk ws) {n : Nat} {p : Pl} (hp : (allP ws)[n]? = some p) : byIdS ws (allP ws) p.o.id = pathV ws n := by
 have := byIdS_at hw (lt_total hp) hp
 rwa [List.take_of_length_le (by rw [allP_len]; exact Nat.le_refl _)] at this
def PathPost (d : Int) (M : List Int) (w : World) (e : Ending) (w' : World) : Prop := ∃ u, e = .returned (.tuple #[u, .int .i64 d]) ∧ OwnG encI 1 3 w.heap.size u M w' ∧ Below w.heap.size w w'
set_option maxHeartbeats 8000000 in
set_option maxRecDepth 1000000 in
theorem Path_any (v : Value) (ws : Wk) (id d : Int) (M : List Int) (w : World) (h : RK w.heap.size v ws w) (ht : total ws ≤ 100000) (hc : PathR ws id d M) :
  Calls Try.prog 50 #[.agg #[v], .int .i64 id] w (PathPost d M w) := by
 obtain ⟨A, c, rfl, -⟩ := (show ∃ A c, v = .slice A ws.length c ∧ True by obtain ⟨A, c, e, _⟩ := h; exact ⟨A, c, e, trivial⟩)
 obtain ⟨i, hk, hc⟩ := hc
 have C1 := Lib.hid fun W (S : Wd w (.slice A ws.length c) W) => checkOutlet_any (.slice A ws.length c) ws id i d W (h.up S.siz S.bel) ht hk
 have C2 := Lib.hid fun (hw : WOk ws) W (S : Wd w (.slice A ws.length c) W) => paths_any A c ws W (h.up S.siz S.bel) hw
 have S0 := Lib.hid (Wd.new (w := w) (v := .slice A ws.length c) 24)
 have HK := Lib.hid hk
 have HC := Lib.hid hc
 clear h hk hc
 go_enter Try.func50, Try.ntmps50
 go_wp2_with fail
 refine (C1.out _ S0.out).mono ?_
 rintro e w1 ⟨rfl, b1⟩
 have S := Lib.hid (S0.out.below b1)
 clear b1
 by_cases h0 : d = 0
 rotate_left
 ·have hdb : (d != 0) = true := by rw [bne_iff_ne]; exact h0
  have HM : Hid (M = []) := Lib.hid (by rcases HC.out with ⟨_, h⟩ | ⟨h, _⟩; exact h; exact absurd h h0)
  go_wp2_with fail
  refine bodyPost_ret (results_tmp2 rfl _ _ _) rfl ?_
  exact ⟨_, rfl, by rw [HM.out]; exact OwnG.nil _ _ _ _ _, S.out.bel⟩
 subst h0
 obtain ⟨n, p, rfl, hf, hp⟩ := HK.out.at_
 have hw := HK.out.chk.1
 have HW := Lib.hid hw
 obtain rfl := fst_id hf hp
 have HWF := Lib.hid (id_wf hw hp)
 have HM : Hid (M = byIdS ws (allP ws) p.o.id) := Lib.hid (by
  rcases HC.out with ⟨h, _⟩ | ⟨_, k, L, hk, hL, rfl⟩
  ·exact absurd rfl h
  ·obtain rfl : n = k := by omega
   rw [byId_all hw hp]
   unfold pathV
   rw [pathOf_eq hw hL])
 have x0 := S.out.c
 clear hw hf hp HC
 go_wp2_with fail
 refine (C2.out HW.out _ S.out).mono ?_
 rintro e w2 ⟨rfl, hpm, b2⟩
 have S2 := Lib.hid (S.out.below b2)
 obtain ⟨u, hu, hrun⟩ := hpm.look p.o.id HWF.out
 have HU := Lib.hid hu
 have hrun2 := hrun w2 rfl
 clear b2 x0 hpm hrun hu
 go_wp2_with fail
 refine bodyPost_ret (results_tmp2 rfl _ _ _) rfl ?_
 exact ⟨u, rfl, by rw [HM.out]; exact HU.out.low (by have := S.out.siz; omega), S2.out.bel⟩
end Go.Proofs.Ytkoacclbempmdaa

/- Contracts of the specification's casedAt and Ends. -/
namespace Go.Proofs.Ytkoacclbempmdaa
open Go.RowKit

/-- What known says of works that are right. -/
theorem known_ok {ws : Wk} {id j e : Int} (hok : WOk ws) (hk : KnownIs ws id j e) : (e = 0 ∧ FstIs (fun o : Ou => o.id) (outs ws) id j ∧ 0 ≤ j) ∨ (FstIs (fun o : Ou => o.id) (outs ws) id (-1) ∧ j = 0 ∧ e = 5) := by
 rcases hk with ⟨h1, h2, -⟩ | ⟨_, h2, h3, h4⟩ | ⟨_, h2, h3, h4⟩
 ·exfalso
  rcases h1 with ⟨hm, _⟩ | ⟨_, _, ⟨k, q, hq, -, hb, -⟩ | ⟨_, e0⟩⟩
  ·have := hok.len
   have := hok.tot
   omega
  ·rcases hb with ⟨hb, _⟩ | ⟨_, ⟨m, q', hm, hq', hh⟩, _⟩ | ⟨_, _, e0⟩
   ·have := hok.ok q (List.mem_of_getElem? hq)
    rw [hb] at this
    cases this
   ·have := hok.one m k q' q hq' hq hm
    rcases hh with e | ⟨e1, e2⟩
    ·exact this.1 e
    ·exact this.2 e1 e2
   ·exact h2 e0
  ·exact h2 e0
 ·exact .inr ⟨h2, h3, h4⟩
 ·exact .inl ⟨h4, h2, h3⟩

set_option maxHeartbeats 8000000 in
set_option maxRecDepth 1000000 in
theorem rcasedAt_any (v cv : Value) (ws : Wk) (s : Ca) (id i d : Int) (w : World) (h : RK w.heap.size v ws w) (ht : total ws ≤ 100000) (hs : RCa w.heap.size cv s w) (hd : CasAt ws s id i d) :
  Calls Try.prog 124 #[.agg #[v], cv, .int .i64 id] w fun e w' => e = .returned (.tuple #[.int .i64 i, .int .i64 d]) ∧ Below w.heap.size w w' := by
 obtain ⟨A, c, rfl, -⟩ := (show ∃ A c, v = .slice A ws.length c ∧ True by obtain ⟨A, c, e, _⟩ := h; exact ⟨A, c, e, trivial⟩)
 obtain ⟨A1, c1, A2, c2, rfl⟩ := hs.form
 have S0 := Lib.hid (CW.new w (.slice A ws.length c) (.slice A1 s.river.length c1) (.slice A2 s.boards.length c2))
 have C1 := Lib.hid fun (d : Int) (hc : CasIs ws s d) W (hb : Below w.heap.size w W) => rCheckCase_any (.slice A ws.length c) _ ws s d W (h.up hb.size hb) ht (hs.up hb.size hb) hc
 have C2 := Lib.hid fun (r : Int) (hr : FstIs (fun o : Ou => o.id) (outs ws) id r) W (hb : Below w.heap.size w W) => rindex_any A ws.length c ws id r W (h.up hb.size hb) ht hr
 clear h hs
 rcases hd with ⟨hc, hd, rfl⟩ | ⟨hc, hk⟩
 ·have HC := Lib.hid hc
  have HD := Lib.hid hd
  clear hc hd
  go_enter Try.func124, Try.ntmps124
  go_wp2_with fail
  refine (C1.out d HC.out _ S0.out.bel).mono ?_
  rintro e w1 ⟨rfl, b1⟩
  have S := Lib.hid (S0.out.below b1)
  have hd := HD.out
  clear b1
  go_wp2_with fail
  refine bodyPost_ret (results_tmp2 rfl _ _ _) rfl ?_
  exact ⟨rfl, S.out.bel⟩
 ·have HC := Lib.hid hc
  have HX : Hid (∃ r, FstIs (fun o : Ou => o.id) (outs ws) id r ∧ ((r < 0 ∧ i = 0 ∧ d = 5) ∨ (0 ≤ r ∧ i = r ∧ d = 0))) := Lib.hid (by
   rcases known_ok hc.ok.1 hk with ⟨a, b, e⟩ | ⟨a, b, e⟩
   ·exact ⟨i, b, .inr ⟨e, rfl, a⟩⟩
   ·exact ⟨-1, a, .inl ⟨by omega, b, e⟩⟩)
  obtain ⟨r, hr, hx⟩ := HX.out
  have HR := Lib.hid hr
  clear hc hk hr HX
  go_enter Try.func124, Try.ntmps124
  go_wp2_with fail
  refine (C1.out 0 HC.out _ S0.out.bel).mono ?_
  rintro e w1 ⟨rfl, b1⟩
  have S := Lib.hid (S0.out.below b1)
  have t0 := S.out.wk
  clear b1
  go_wp2_with fail
  refine (C2.out r HR.out _ S.out.bel).mono ?_
  rintro e w2 ⟨rfl, b2⟩
  have S2 := Lib.hid (S.out.below b2)
  clear b2 t0
  rcases hx with ⟨h1, rfl, rfl⟩ | ⟨h1, rfl, rfl⟩
  ·go_wp2_with fail
   refine bodyPost_ret (results_tmp2 rfl _ _ _) rfl ?_
   exact ⟨rfl, S2.out.bel⟩
  ·have h3 : ¬ i < 0 := by omega
   go_wp2_with fail
   refine bodyPost_ret (results_tmp2 rfl _ _ _) rfl ?_
   exact ⟨rfl, S2.out.bel⟩

/-- What the specification's Ends keeps. -/
structure EnT (w : World) (v a b : Value) (W : World) : Prop where
 wk : W.cell? ⟨w.heap.size, 0, none⟩ = some v
 ca : W.cell? ⟨w.heap.size + 1, 0, none⟩ = some a
 cb : W.cell? ⟨w.heap.size + 1, 1, none⟩ = some b
 th : W.there (w.heap.size + 1 + 1) 0 11
 bel : Below w.heap.size w W
theorem EnT.siz {w W : World} {v a b : Value} (h : EnT w v a b W) : w.heap.size + 3 ≤ W.heap.size := there_lt h.th (by decide)
theorem EnT.below {w W W' : World} {v a b : Value} (h : EnT w v a b W) (hb : Below W.heap.size W W') : EnT w v a b W' :=
 ⟨BelS.c hb h.wk, BelS.c hb h.ca, BelS.c hb h.cb, there_below h.th (there_lt h.th (by decide)) hb, h.bel.trans (hb.mono h.bel.size)⟩
/-- What the specification's Ends returns. -/
def rEndsR (ws : Wk) (s : Ca) (id i d : Int) (w : World) (e : Ending) (w' : World) : Prop := ∃ a0 a1 a2 a3 a4 a5 a6 a7 a8 a9, e = .returned (.agg #[a0, a1, a2, a3, a4, a5, a6, a7, a8, a9, .int .i64 d]) ∧ SupIs w.heap.size (okN d (flE ws s id i.toNat 1)) (okN d (flE ws s id i.toNat (-1))) (okWa d (exW ws s (endE ws id) 1)) (okWa d (exW ws s (endE ws id) (-1))) (.agg #[a0, a1, a2, a3, a4, a5, a6, a7, a8, a9]) w' ∧ Below w.heap.size w w'

set_option maxHeartbeats 8000000 in
set_option maxRecDepth 1000000 in
theorem rEnds_any (v cv : Value) (ws : Wk) (s : Ca) (id i d : Int) (w : World) (h : RK w.heap.size v ws w) (ht : total ws ≤ 100000) (hs : RCa w.heap.size cv s w) (hd : CasAt ws s id i d) :
  Calls Try.prog 64 #[.agg #[v], cv, .int .i64 id] w (rEndsR ws s id i d w) := by
 obtain ⟨A, c, rfl, -⟩ := (show ∃ A c, v = .slice A ws.length c ∧ True by obtain ⟨A, c, e, _⟩ := h; exact ⟨A, c, e, trivial⟩)
 obtain ⟨A1, c1, A2, c2, rfl⟩ := hs.form
 have C1 := Lib.hid fun W (hb : Below w.heap.size w W) => rcasedAt_any (.slice A ws.length c) _ ws s id i d W (h.up hb.size hb) ht (hs.up hb.size hb) hd
 have C2 := Lib.hid fun (n : Nat) (p : Pl) (hw : WOk ws) (hc : CaOk ws s) (hf : FstIs (fun o : Ou => o.id) (outs ws) id n) (hp : (allP ws)[n]? = some p) W (hb : Below w.heap.size w W) => (by have hh := rends_any A c _ ws s n p W (h.up hb.size hb) (hs.up hb.size hb) hw hc hp; rwa [fst_id hf hp] at hh)
 have HD := Lib.hid hd
 clear h hs hd
 go_enter Try.func64, Try.ntmps64
 go_wp2_with fail
 refine (C1.out _ ?b).mono ?_
 case b => exact (((Below.refl _ _).alloc (Nat.le_refl _) _).alloc (by simp) _).alloc (by simp; omega) _
 rintro e w1 ⟨rfl, bb1⟩
 have S1 : Hid (EnT w (.slice A ws.length c) (.slice A1 s.river.length c1) (.slice A2 s.boards.length c2) w1) := Lib.hid (EnT.below ⟨by simp [go_sem], by simp [go_sem], by simp [go_sem], fun j hj => by
  match j, hj with
  | 0, _ => exact ⟨by simp [go_sem], by simp [go_sem]⟩
  | 1, _ => exact ⟨by simp [go_sem], by simp [go_sem]⟩
  | 2, _ => exact ⟨by simp [go_sem], by simp [go_sem]⟩
  | 3, _ => exact ⟨by simp [go_sem], by simp [go_sem]⟩
  | 4, _ => exact ⟨by simp [go_sem], by simp [go_sem]⟩
  | 5, _ => exact ⟨by simp [go_sem], by simp [go_sem]⟩
  | 6, _ => exact ⟨by simp [go_sem], by simp [go_sem]⟩
  | 7, _ => exact ⟨by simp [go_sem], by simp [go_sem]⟩
  | 8, _ => exact ⟨by simp [go_sem], by simp [go_sem]⟩
  | 9, _ => exact ⟨by simp [go_sem], by simp [go_sem]⟩
  | 10, _ => exact ⟨by simp [go_sem], by simp [go_sem]⟩
  | j + 11, hj => omega, (((Below.refl _ _).alloc (Nat.le_refl _) _).alloc (by simp) _).alloc (by simp; omega) _⟩ bb1)
 have r0 : w1.cell? ⟨w.heap.size + 1 + 1, 0, none⟩ = some (.int .i64 0) := BelS.c bb1 (by simp [go_sem])
 have r1 : w1.cell? ⟨w.heap.size + 1 + 1, 1, none⟩ = some (.int .i64 0) := BelS.c bb1 (by simp [go_sem])
 have r2 : w1.cell? ⟨w.heap.size + 1 + 1, 2, none⟩ = some (.slice none 0 0) := BelS.c bb1 (by simp [go_sem])
 have r3 : w1.cell? ⟨w.heap.size + 1 + 1, 3, none⟩ = some (.slice none 0 0) := BelS.c bb1 (by simp [go_sem])
 have r4 : w1.cell? ⟨w.heap.size + 1 + 1, 4, none⟩ = some (.slice none 0 0) := BelS.c bb1 (by simp [go_sem])
 have r5 : w1.cell? ⟨w.heap.size + 1 + 1, 5, none⟩ = some (.slice none 0 0) := BelS.c bb1 (by simp [go_sem])
 have r6 : w1.cell? ⟨w.heap.size + 1 + 1, 6, none⟩ = some (.slice none 0 0) := BelS.c bb1 (by simp [go_sem])
 have r7 : w1.cell? ⟨w.heap.size + 1 + 1, 7, none⟩ = some (.slice none 0 0) := BelS.c bb1 (by simp [go_sem])
 have r8 : w1.cell? ⟨w.heap.size + 1 + 1, 8, none⟩ = some (.slice none 0 0) := BelS.c bb1 (by simp [go_sem])
 have r9 : w1.cell? ⟨w.heap.size + 1 + 1, 9, none⟩ = some (.slice none 0 0) := BelS.c bb1 (by simp [go_sem])
 have r10 : w1.cell? ⟨w.heap.size + 1 + 1, 10, none⟩ = some (.int .i64 0) := BelS.c bb1 (by simp [go_sem])
 clear bb1
 by_cases hd0 : d = 0
 ·subst hd0
  obtain ⟨hw, hc, n, p, rfl, hf, hp⟩ := HD.out.ok
  have C3 := Lib.hid (C2.out n p hw hc hf hp)
  have x0 := S1.out.wk
  have x1 := S1.out.ca
  have x2 := S1.out.cb
  clear hw hc hf hp C2 r0 r1 r2 r3 r4 r5 r6 r7 r8 r9 r10
  go_wp2_with fail
  refine (C3.out _ S1.out.bel).mono ?_
  rintro e w2 ⟨a1, a2, a3, a4, a5, a6, a7, a8, rfl, hx, hy, bb2⟩
  have S2 := Lib.hid (S1.out.below bb2)
  have HX := Lib.hid hx
  have HY := Lib.hid hy
  obtain ⟨A1_, c1_, A2_, c2_, A3_, c3_, A4_, c4_, e1⟩ := hx.form
  obtain ⟨B1_, k1_, B2_, k2_, B3_, k3_, B4_, k4_, e2⟩ := hy.form
  simp only [Value.agg.injEq, Array.mk.injEq, List.cons.injEq, and_true] at e1 e2
  obtain ⟨rfl, rfl, rfl, rfl⟩ := e1
  obtain ⟨rfl, rfl, rfl, rfl⟩ := e2
  have HZ1 := Lib.hid S1.out.siz
  clear hx hy x0 x1 x2 S1
  have sz := S2.out.siz
  obtain ⟨v0, t0⟩ := Option.isSome_iff_exists.1 (S2.out.th 0 (by decide)).1
  have z0 := (S2.out.th 0 (by decide)).2
  obtain ⟨v1, t1⟩ := Option.isSome_iff_exists.1 (S2.out.th 1 (by decide)).1
  have z1 := (S2.out.th 1 (by decide)).2
  obtain ⟨v2, t2⟩ := Option.isSome_iff_exists.1 (S2.out.th 2 (by decide)).1
  have z2 := (S2.out.th 2 (by decide)).2
  obtain ⟨v3, t3⟩ := Option.isSome_iff_exists.1 (S2.out.th 3 (by decide)).1
  have z3 := (S2.out.th 3 (by decide)).2
  obtain ⟨v4, t4⟩ := Option.isSome_iff_exists.1 (S2.out.th 4 (by decide)).1
  have z4 := (S2.out.th 4 (by decide)).2
  obtain ⟨v5, t5⟩ := Option.isSome_iff_exists.1 (S2.out.th 5 (by decide)).1
  have z5 := (S2.out.th 5 (by decide)).2
  obtain ⟨v6, t6⟩ := Option.isSome_iff_exists.1 (S2.out.th 6 (by decide)).1
  have z6 := (S2.out.th 6 (by decide)).2
  obtain ⟨v7, t7⟩ := Option.isSome_iff_exists.1 (S2.out.th 7 (by decide)).1
  have z7 := (S2.out.th 7 (by decide)).2
  obtain ⟨v8, t8⟩ := Option.isSome_iff_exists.1 (S2.out.th 8 (by decide)).1
  have z8 := (S2.out.th 8 (by decide)).2
  obtain ⟨v9, t9⟩ := Option.isSome_iff_exists.1 (S2.out.th 9 (by decide)).1
  have z9 := (S2.out.th 9 (by decide)).2
  obtain ⟨v10, t10⟩ := Option.isSome_iff_exists.1 (S2.out.th 10 (by decide)).1
  have z10 := (S2.out.th 10 (by decide)).2
  simp only [Nat.zero_add] at t0 z0 t1 z1 t2 z2 t3 z3 t4 z4 t5 z5 t6 z6 t7 z7 t8 z8 t9 z9 t10 z10
  obtain ⟨f1, hf1⟩ : ∃ f, flE ws s id n 1 = f := ⟨_, rfl⟩
  obtain ⟨f2, hf2⟩ : ∃ f, flE ws s id n (-1) = f := ⟨_, rfl⟩
  have HF := Lib.hid (And.intro hf1 hf2)
  rw [hf1, hf2]
  clear hf1 hf2 bb2
  obtain ⟨x, hx⟩ : ∃ x, exW ws s (endE ws id) 1 = x := ⟨_, rfl⟩
  obtain ⟨y, hy⟩ : ∃ y, exW ws s (endE ws id) (-1) = y := ⟨_, rfl⟩
  have HE := Lib.hid (And.intro hx hy)
  rw [hx] at HX ⊢
  rw [hy] at HY ⊢
  clear hx hy
  go_wp2_with fail
  clear t0 z0 t1 z1 t2 z2 t3 z3 t4 z4 t5 z5 t6 z6 t7 z7 t8 z8 t9 z9 t10 z10
  obtain ⟨W8, hW8⟩ : ∃ W8, (((((((((((w2.setCell ⟨w.heap.size + 1 + 1, 0, none⟩ (.int .i64 f1)).setCell ⟨w.heap.size + 1 + 1, 1, none⟩ (.int .i64 f2)).setCell ⟨w.heap.size + 1 + 1, 2, none⟩ (.slice A1_ x.river.length c1_)).setCell ⟨w.heap.size + 1 + 1, 3, none⟩ (.slice A2_ x.boards.length c2_)).setCell ⟨w.heap.size + 1 + 1, 4, none⟩ (.slice A3_ x.leaks.length c3_)).setCell ⟨w.heap.size + 1 + 1, 5, none⟩ (.slice A4_ x.losses.length c4_)).setCell ⟨w.heap.size + 1 + 1, 6, none⟩ (.slice B1_ y.river.length k1_)).setCell ⟨w.heap.size + 1 + 1, 7, none⟩ (.slice B2_ y.boards.length k2_)).setCell ⟨w.heap.size + 1 + 1, 8, none⟩ (.slice B3_ y.leaks.length k3_)).setCell ⟨w.heap.size + 1 + 1, 9, none⟩ (.slice B4_ y.losses.length k4_)).setCell ⟨w.heap.size + 1 + 1, 10, none⟩ (.int .i64 0)) = W8 := ⟨_, rfl⟩
  have e8 : w2.setCells (w.heap.size + 1 + 1) 0 [.int .i64 f1, .int .i64 f2, .slice A1_ x.river.length c1_, .slice A2_ x.boards.length c2_, .slice A3_ x.leaks.length c3_, .slice A4_ x.losses.length c4_, .slice B1_ y.river.length k1_, .slice B2_ y.boards.length k2_, .slice B3_ y.leaks.length k3_, .slice B4_ y.losses.length k4_, .int .i64 0] = W8 := hW8
  have r8 : W8.rangeAt (w.heap.size + 1 + 1) 0 [.int .i64 f1, .int .i64 f2, .slice A1_ x.river.length c1_, .slice A2_ x.boards.length c2_, .slice A3_ x.leaks.length c3_, .slice A4_ x.losses.length c4_, .slice B1_ y.river.length k1_, .slice B2_ y.boards.length k2_, .slice B3_ y.leaks.length k3_, .slice B4_ y.losses.length k4_, .int .i64 0] := by rw [← e8]; exact World.rangeAt_setCells_same _ _ _ _ S2.out.th
  have g8 : GrownL [w.heap.size + 2] w2 W8 := by rw [← e8]; exact GrownL.setCells _ _ _ _ _ (by simp)
  rw [hW8]
  have c0 := r8 0 _ rfl
  have c1 := r8 1 _ rfl
  have c2 := r8 2 _ rfl
  have c3 := r8 3 _ rfl
  have c4 := r8 4 _ rfl
  have c5 := r8 5 _ rfl
  have c6 := r8 6 _ rfl
  have c7 := r8 7 _ rfl
  have c8 := r8 8 _ rfl
  have c9 := r8 9 _ rfl
  have c10 := r8 10 _ rfl
  simp only [Nat.zero_add] at c0 c1 c2 c3 c4 c5 c6 c7 c8 c9 c10
  have GB := S2.out.bel.trans (g8.below (B := w.heap.size) (by simp) S2.out.bel.size)
  refine bodyPost_ret (v := .agg #[.int .i64 f1, .int .i64 f2, .slice A1_ x.river.length c1_, .slice A2_ x.boards.length c2_, .slice A3_ x.leaks.length c3_, .slice A4_ x.losses.length c4_, .slice B1_ y.river.length k1_, .slice B2_ y.boards.length k2_, .slice B3_ y.leaks.length k3_, .slice B4_ y.losses.length k4_, .int .i64 0]) (by simp [results, Try.results64, go_sem, c0, c1, c2, c3, c4, c5, c6, c7, c8, c9, c10]) rfl ⟨_, _, _, _, _, _, _, _, _, _, rfl, ⟨_, _, _, _, _, _, _, _, by rw [okN_zero, okN_zero, Int.toNat_natCast, HF.out.1, HF.out.2], ?_, ?_⟩, GB⟩
  ·rw [show okWa 0 (exW ws s (endE ws id) 1) = x from HE.out.1]; exact (HX.out.grown g8 (fun b hb _ hm => by have := HZ1.out; simp at hm; omega)).low (by have := HZ1.out; omega)
  ·rw [show okWa 0 (exW ws s (endE ws id) (-1)) = y from HE.out.2]; exact (HY.out.grown g8 (fun b hb _ hm => by have := HZ1.out; simp at hm; omega)).low (by have := HZ1.out; omega)
 ·have HD0 := Lib.hid hd0
  have z0 := (S1.out.th 0 (by decide)).2
  have z1 := (S1.out.th 1 (by decide)).2
  have z2 := (S1.out.th 2 (by decide)).2
  have z3 := (S1.out.th 3 (by decide)).2
  have z4 := (S1.out.th 4 (by decide)).2
  have z5 := (S1.out.th 5 (by decide)).2
  have z6 := (S1.out.th 6 (by decide)).2
  have z7 := (S1.out.th 7 (by decide)).2
  have z8 := (S1.out.th 8 (by decide)).2
  have z9 := (S1.out.th 9 (by decide)).2
  have z10 := (S1.out.th 10 (by decide)).2
  simp only [Nat.zero_add] at z0 z1 z2 z3 z4 z5 z6 z7 z8 z9
  go_wp2_with fail
  clear r0 z0 r1 z1 r2 z2 r3 z3 r4 z4 r5 z5 r6 z6 r7 z7 r8 z8 r9 z9 r10 z10
  obtain ⟨W8, hW8⟩ : ∃ W8, (((((((((((w1.setCell ⟨w.heap.size + 1 + 1, 0, none⟩ (.int .i64 0)).setCell ⟨w.heap.size + 1 + 1, 1, none⟩ (.int .i64 0)).setCell ⟨w.heap.size + 1 + 1, 2, none⟩ (.slice none 0 0)).setCell ⟨w.heap.size + 1 + 1, 3, none⟩ (.slice none 0 0)).setCell ⟨w.heap.size + 1 + 1, 4, none⟩ (.slice none 0 0)).setCell ⟨w.heap.size + 1 + 1, 5, none⟩ (.slice none 0 0)).setCell ⟨w.heap.size + 1 + 1, 6, none⟩ (.slice none 0 0)).setCell ⟨w.heap.size + 1 + 1, 7, none⟩ (.slice none 0 0)).setCell ⟨w.heap.size + 1 + 1, 8, none⟩ (.slice none 0 0)).setCell ⟨w.heap.size + 1 + 1, 9, none⟩ (.slice none 0 0)).setCell ⟨w.heap.size + 1 + 1, 10, none⟩ (.int .i64 d)) = W8 := ⟨_, rfl⟩
  have e8 : w1.setCells (w.heap.size + 1 + 1) 0 [.int .i64 0, .int .i64 0, .slice none 0 0, .slice none 0 0, .slice none 0 0, .slice none 0 0, .slice none 0 0, .slice none 0 0, .slice none 0 0, .slice none 0 0, .int .i64 d] = W8 := hW8
  have r8 : W8.rangeAt (w.heap.size + 1 + 1) 0 [.int .i64 0, .int .i64 0, .slice none 0 0, .slice none 0 0, .slice none 0 0, .slice none 0 0, .slice none 0 0, .slice none 0 0, .slice none 0 0, .slice none 0 0, .int .i64 d] := by rw [← e8]; exact World.rangeAt_setCells_same _ _ _ _ S1.out.th
  have g8 : GrownL [w.heap.size + 2] w1 W8 := by rw [← e8]; exact GrownL.setCells _ _ _ _ _ (by simp)
  rw [hW8]
  have c0 := r8 0 _ rfl
  have c1 := r8 1 _ rfl
  have c2 := r8 2 _ rfl
  have c3 := r8 3 _ rfl
  have c4 := r8 4 _ rfl
  have c5 := r8 5 _ rfl
  have c6 := r8 6 _ rfl
  have c7 := r8 7 _ rfl
  have c8 := r8 8 _ rfl
  have c9 := r8 9 _ rfl
  have c10 := r8 10 _ rfl
  simp only [Nat.zero_add] at c0 c1 c2 c3 c4 c5 c6 c7 c8 c9 c10
  have GB := S1.out.bel.trans (g8.below (B := w.heap.size) (by simp) S1.out.bel.size)
  refine bodyPost_ret (v := .agg #[.int .i64 0, .int .i64 0, .slice none 0 0, .slice none 0 0, .slice none 0 0, .slice none 0 0, .slice none 0 0, .slice none 0 0, .slice none 0 0, .slice none 0 0, .int .i64 d]) (by simp [results, Try.results64, go_sem, c0, c1, c2, c3, c4, c5, c6, c7, c8, c9, c10]) rfl ⟨_, _, _, _, _, _, _, _, _, _, rfl, ⟨_, _, _, _, _, _, _, _, by rw [okN_ne HD0.out, okN_ne HD0.out], ?_, ?_⟩, GB⟩
  ·rw [show okWa d (exW ws s (endE ws id) 1) = ⟨[], [], [], []⟩ from if_neg HD0.out]; exact OW.nil _ _
  ·rw [show okWa d (exW ws s (endE ws id) (-1)) = ⟨[], [], [], []⟩ from if_neg HD0.out]; exact OW.nil _ _
end Go.Proofs.Ytkoacclbempmdaa

/- Contracts of the laws' flowing, boarded, given. -/
namespace Go.Proofs.Ytkoacclbempmdaa
open Go.RowKit

set_option maxHeartbeats 8000000 in
set_option maxRecDepth 1000000 in
theorem flowing_any (v wv : Value) (ws : Wk) (s : Wa) (i : Nat) (w : World) (h : RK w.heap.size v ws w) (ht : total ws ≤ 100000) (hs : RWa w.heap.size wv s w) (hd : WatIs ws s 0) (hi : i < total ws) :
  Calls Try.prog 36 #[.agg #[v], wv, .int .i64 i] w fun e w' => e = .returned (.int .i64 ((flowF ws s).thr.getD i 0)) ∧ Below w.heap.size w w' := by
 obtain ⟨A, c, rfl, -⟩ := (show ∃ A c, v = .slice A ws.length c ∧ True by obtain ⟨A, c, e, _⟩ := h; exact ⟨A, c, e, trivial⟩)
 obtain ⟨A1, c1, A2, c2, A3, c3, A4, c4, rfl⟩ := hs.form
 have C1 := Lib.hid fun W (hb : Below w.heap.size w W) => Flow_any (.slice A ws.length c) _ ws s 0 W (h.up hb.size hb) (by omega) (hs.up hb.size hb) hd
 have S0 := Lib.hid (WW.new w (.slice A ws.length c) (.slice A1 s.river.length c1) (.slice A2 s.boards.length c2) (.slice A3 s.leaks.length c3) (.slice A4 s.losses.length c4))
 have hlf : (flowF ws s).thr.length = total ws := thr_len ws s _ (Nat.le_refl _)
 obtain ⟨x, hx⟩ : ∃ x, (flowF ws s).thr[i]? = some x := ⟨_, List.getElem?_eq_getElem (by omega)⟩
 have hg : (flowF ws s).thr.getD i 0 = x := by rw [List.getD_eq_getElem?_getD, hx]; rfl
 have HX := Lib.hid hx
 have HLF := Lib.hid hlf
 have HT := Lib.hid ht
 have hi0 : (i : Int) < (total ws : Int) := by omega
 have hi1 : (0 : Int) ≤ (i : Int) := by omega
 rw [hg]
 clear h hs hd hx hg hlf hi
 go_enter Try.func36, Try.ntmps36
 go_wp2_with fail
 refine (C1.out _ S0.out.bel).mono ?_
 rintro e w1 ⟨u, rfl, hu, b1⟩
 have S1 := Lib.hid (S0.out.below b1)
 rw [okL_zero] at hu
 obtain ⟨U, cu, rfl, -⟩ := hu.form
 rw [HLF.out]
 have R := Lib.hid (hu.rr EI (by rw [HLF.out]; have := HT.out; show total ws ≤ 1000000000000000; omega))
 rw [HLF.out] at R
 obtain ⟨b, o, rfl, -, q⟩ := R.out.int HX.out
 clear b1 hu R
 go_wp2_with fail
 go_ret
 exact ⟨rfl, S1.out.bel⟩

theorem set4b {W : World} {b : Nat} {a0 a1 a2 a3 : Value} (h0 : W.cell? ⟨b, 0, none⟩ = some a0) (h1 : W.cell? ⟨b, 1, none⟩ = some a1) (h2 : W.cell? ⟨b, 2, none⟩ = some a2) (h3 : W.cell? ⟨b, 3, none⟩ = some a3) (v0 v1 v2 v3 : Value) {X : World} (hX : (((W.setCell ⟨b, 0, none⟩ v0).setCell ⟨b, 1, none⟩ v1).setCell ⟨b, 2, none⟩ v2).setCell ⟨b, 3, none⟩ v3 = X) :
  X.cell? ⟨b, 0, none⟩ = some v0 ∧ X.cell? ⟨b, 1, none⟩ = some v1 ∧ X.cell? ⟨b, 2, none⟩ = some v2 ∧ X.cell? ⟨b, 3, none⟩ = some v3 ∧ GrownL [b] W X := by
 subst hX
 have n : ∀ i j, i ≠ j → ∀ (X : World) (v : Value), (X.setCell ⟨b, i, none⟩ v).cell? ⟨b, j, none⟩ = X.cell? ⟨b, j, none⟩ := fun i j hij X v => World.cell?_setCell_other _ ⟨b, i, none⟩ ⟨b, j, none⟩ _ (by simp <;> omega)
 obtain ⟨p0, p1, p2, g⟩ := set3 h0 h1 h2 v0 v1 v2
 refine ⟨by rw [n 3 0 (by decide), p0], by rw [n 3 1 (by decide), p1], by rw [n 3 2 (by decide), p2], World.cell?_setCell_same' _ _ _ (by rw [n 2 3 (by decide), n 1 3 (by decide), n 0 3 (by decide), h3]; rfl), g.trans (GrownL.set _ _ _ (by simp))⟩

/-- A literal without elements is a list of one's own. -/
theorem OwnG.lit0 {α : Type} (enc : α → List Value) (s : Nat) (e : TypeId) {base g : Nat} {W : World} (hg : W.heap[g]? = some (.cells #[] e (0, 0))) (hb : base ≤ g) : OwnG enc s e base (.slice (some ⟨g, 0, none⟩) 0 0) [] W :=
 ⟨by simp, .inr ⟨g, 0, #[], rfl, hb, hg, Nat.le_refl _, by unfold maxLen; omega, by simp, by simp⟩⟩

set_option maxHeartbeats 8000000 in
set_option maxRecDepth 1000000 in
theorem boarded_any (wv : Value) (s : Wa) (i : Nat) (k : Int) (w : World) (hs : RWa w.heap.size wv s w) (hi : i < s.boards.length) (hl : s.boards.length ≤ 1000) :
  Calls Try.prog 37 #[wv, .int .i64 i, .int .i64 k] w fun e w' => ∃ v, e = .returned v ∧ RWa w'.heap.size v (setB s i k) w' ∧ Below w.heap.size w w' := by
 obtain ⟨i0, hz0, hj0, hj1, hj2⟩ := info_parts infoInt
 obtain ⟨A1, c1, A2, c2, A3, c3, A4, c4, rfl⟩ := hs.form
 have HS := Lib.hid hs
 obtain ⟨W0, hW0⟩ : ∃ W0, ((w.alloc (.cells #[.slice A1 s.river.length c1, .slice A2 s.boards.length c2, .slice A3 s.leaks.length c3, .slice A4 s.losses.length c4] 27)).alloc (.cells #[.slice none 0 0, .slice none 0 0, .slice none 0 0, .slice none 0 0] 27)) = W0 := ⟨_, rfl⟩
 have hsz : W0.heap.size = w.heap.size + 2 := by rw [← hW0]; simp
 have hB0 : Below w.heap.size w W0 := by rw [← hW0]; exact ((Below.refl _ _).alloc (Nat.le_refl _) _).alloc (by simp) _
 have K0 : (∀ j u, [Value.slice A1 s.river.length c1, .slice A2 s.boards.length c2, .slice A3 s.leaks.length c3, .slice A4 s.losses.length c4][j]? = some u → W0.cell? ⟨w.heap.size, j, none⟩ = some u) ∧ (∀ j, W0.frozen? ⟨w.heap.size, j, none⟩ = false) ∧ (∀ j, j < 4 → W0.cell? ⟨w.heap.size + 1, j, none⟩ = some (.slice none 0 0)) ∧ ∀ j, W0.frozen? ⟨w.heap.size + 1, j, none⟩ = false := by
  rw [← hW0]
  refine ⟨fun j u hj => ?_, fun j => by simp [go_sem], fun j hj => ?_, fun j => by simp [go_sem]⟩
  ·match j, hj with
   | 0, hj => simpa [go_sem] using hj
   | 1, hj => simpa [go_sem] using hj
   | 2, hj => simpa [go_sem] using hj
   | 3, hj => simpa [go_sem] using hj
   | j + 4, hj => simp at hj
  ·match j, hj with
   | 0, _ => simp [go_sem]
   | 1, _ => simp [go_sem]
   | 2, _ => simp [go_sem]
   | 3, _ => simp [go_sem]
 obtain ⟨W3, hW3⟩ : ∃ W3, W0.alloc (.cells #[] 3) = W3 := ⟨_, rfl⟩
 have g3 : GrownL [] W0 W3 := by rw [← hW3]; exact GrownL.of_below ((Below.refl _ _).alloc (Nat.le_refl _) _)
 have hs3 : W3.heap.size = w.heap.size + 3 := by rw [← hW3]; simp [hsz]
 have hB3 : Below w.heap.size w W3 := hB0.trans (g3.below (by simp) hB0.size)
 obtain ⟨v', W', r1, o1, g1, s1⟩ := app_list (P := Try.prog) (base := w.heap.size + 2) EI Try.underlying25 hz0 hj0 hj1 hj2 rfl (OwnG.lit0 encI 1 3 (W := W3) (g := W0.heap.size) (by rw [← hW3]; exact World.alloc_heap_new W0 _) (by omega)) hs.parts.2.1 hB3 (by omega) (by simp) (by omega) (by decide)
 rw [List.nil_append] at o1
 have hg1 : ∀ k, k < w.heap.size + 2 → k ∉ (Value.slice (some ⟨W0.heap.size, 0, none⟩) 0 0).ownBlock.toList := fun k hk hm => by simp [Value.ownBlock] at hm; omega
 have hB' : Below w.heap.size w W' := hB3.trans (g1.below (fun k hk => by simp [Value.ownBlock] at hk; omega) hB3.size)
 have KW := fun (a : Addr) (ha : a.block < w.heap.size + 2) => And.intro (fun u (hu : W0.cell? a = some u) => g1.cell (g3.cell hu (by simp)) (hg1 _ ha)) (fun (hu : W0.frozen? a = false) => (World.frozen?_of_block (a := a) (g1.block _ (by omega) (hg1 _ ha))).trans ((World.frozen?_of_block (a := a) (g3.block _ (by omega) (by simp))).trans hu))
 obtain ⟨Ag, cg, rfl, hAg⟩ := o1.form
 obtain ⟨g, rfl⟩ := hAg (by omega)
 have hgg := o1.lt g rfl
 have x0 := (KW ⟨w.heap.size, 0, none⟩ (by show w.heap.size < _; omega)).1 _ (K0.1 0 _ rfl)
 have x1 := (KW ⟨w.heap.size, 1, none⟩ (by show w.heap.size < _; omega)).1 _ (K0.1 1 _ rfl)
 have x2 := (KW ⟨w.heap.size, 2, none⟩ (by show w.heap.size < _; omega)).1 _ (K0.1 2 _ rfl)
 have x3 := (KW ⟨w.heap.size, 3, none⟩ (by show w.heap.size < _; omega)).1 _ (K0.1 3 _ rfl)
 have z1 := (KW ⟨w.heap.size, 1, none⟩ (by show w.heap.size < _; omega)).2 (K0.2.1 1)
 have R := Lib.hid (fun j (hj : j < 4) => And.intro ((KW ⟨w.heap.size + 1, j, none⟩ (by show w.heap.size + 1 < _; omega)).1 _ (K0.2.2.1 j hj)) ((KW ⟨w.heap.size + 1, j, none⟩ (by show w.heap.size + 1 < _; omega)).2 (K0.2.2.2 j)))
 have y1 : (W0.alloc (.cells #[] 3)).cell? ⟨w.heap.size, 1, none⟩ = some (.slice A2 s.boards.length c2) := by rw [hW3]; exact g3.cell (K0.1 1 _ rfl) (by simp)
 have R1 := Lib.hid r1
 have HW0 := Lib.hid hW0
 have HW3 := Lib.hid hW3
 -- behind the store of the list
 obtain ⟨X, hX⟩ : ∃ X, W'.setCell ⟨w.heap.size, 1, none⟩ (.slice (some ⟨g, 0, none⟩) s.boards.length cg) = X := ⟨_, rfl⟩
 have gX : GrownL [w.heap.size] W' X := by rw [← hX]; exact GrownL.set _ _ _ (by simp)
 have oX := o1.grown gX (fun b hb hm => by simp [Value.ownBlock] at hb hm; omega)
 have ow' : X.ownsRow (w.heap.size + 2) 3 1 (.slice (some ⟨g, 0, none⟩) s.boards.length cg) s.boards.length (s.boards.flatMap encI) := oX
 obtain ⟨y, hy⟩ : ∃ y, s.boards[i]? = some y := ⟨_, List.getElem?_eq_getElem hi⟩
 have hat : (s.boards.flatMap encI)[i]? = some (.int .i64 y) := by have := EI.at_ s.boards i 0 y hy (by decide); rw [Nat.mul_one, Nat.add_zero] at this; exact this.trans rfl
 have u0 : X.cell? ⟨g, i, none⟩ = some (.int .i64 y) := (World.ownsRow.cellAt ow' i (by omega)).trans hat
 have u1 := World.ownsRow.frozenAt ow' i
 have u2 : X.cell? ⟨w.heap.size, 1, none⟩ = some (.slice (some ⟨g, 0, none⟩) s.boards.length cg) := by rw [← hX]; exact World.cell?_setCell_same' _ _ _ (by rw [x1]; rfl)
 -- behind the store of the number
 obtain ⟨Y, hY⟩ : ∃ Y, X.setCell ⟨g, i, none⟩ (.int .i64 k) = Y := ⟨_, rfl⟩
 have gY : GrownL [g] X Y := by rw [← hY]; exact GrownL.set _ _ _ (by simp)
 have oY : OwnG encI 1 3 (w.heap.size + 2) (.slice (some ⟨g, 0, none⟩) s.boards.length cg) (s.boards.set i k) Y := by rw [← hY]; exact OwnG.set1 oX rfl i k
 have nX : ∀ a : Addr, a.block = w.heap.size + 1 → ∀ u, W'.cell? a = some u → Y.cell? a = some u := fun a ha u hu => gY.cell (gX.cell hu (by simp; omega)) (by simp; omega)
 have fX : ∀ a : Addr, a.block = w.heap.size + 1 → W'.frozen? a = false → Y.frozen? a = false := fun a ha hu => (World.frozen?_of_block (a := a) (gY.block _ (by have := gX.size; have := hB'.size; omega) (by simp; omega))).trans ((World.frozen?_of_block (a := a) (gX.block _ (by omega) (by simp; omega))).trans hu)
 have cX : ∀ j u, j ≠ 1 → W'.cell? ⟨w.heap.size, j, none⟩ = some u → Y.cell? ⟨w.heap.size, j, none⟩ = some u := fun j u hj hu => gY.cell (by rw [← hX]; exact (World.cell?_setCell_other _ ⟨w.heap.size, 1, none⟩ ⟨w.heap.size, j, none⟩ _ (by simp <;> omega)).trans hu) (by simp; omega)
 have a0 := cX 0 _ (by decide) x0
 have a1 := gY.cell u2 (by simp; omega)
 have a2 := cX 2 _ (by decide) x2
 have a3 := cX 3 _ (by decide) x3
 have HB := Lib.hid (hB'.trans ((gX.below (fun k hk => by simp at hk; omega) hB'.size).trans (gY.below (fun k hk => by simp at hk; omega) (by have := gX.size; have := hB'.size; omega))))
 have OY := Lib.hid oY
 have HX := Lib.hid hX
 have HY := Lib.hid hY
 have RY := Lib.hid (fun j (hj : j < 4) => And.intro (nX ⟨w.heap.size + 1, j, none⟩ rfl _ (R.out j hj).1) (fX ⟨w.heap.size + 1, j, none⟩ rfl (R.out j hj).2))
 have hi0 : (i : Int) < (s.boards.length : Int) := by omega
 have HG := Lib.hid hgg
 have HL := Lib.hid hl
 clear hs r1 hW0 hW3 hX hY K0 hB0 hB3 hB' KW o1 oX oY ow' hat hy gX gY nX fX cX hgg hg1 g1 g3 hs3 hsz hAg s1 R x2 x3 x0
 go_enter Try.func37, Try.ntmps37
 go_upto_region 1 with fail
 rw [HW0.out]
 go_upto_region 2 with (at_builtin; rw [HW3.out]; refine Lib.wpList_append_run _ rfl _ _ _ _ rfl _ _ rfl rfl _ W' R1.out ?_)
 rw [HX.out]
 clear x1 z1 y1
 go_upto_region 3 with fail
 rw [HY.out]
 clear u0 u1 u2
 have r0 := (RY.out 0 (by decide)).1
 have r1 := (RY.out 1 (by decide)).1
 have r2 := (RY.out 2 (by decide)).1
 have r3 := (RY.out 3 (by decide)).1
 have f0 := (RY.out 0 (by decide)).2
 have f1 := (RY.out 1 (by decide)).2
 have f2 := (RY.out 2 (by decide)).2
 have f3 := (RY.out 3 (by decide)).2
 go_wp2_with fail
 obtain ⟨Z, hZ⟩ : ∃ Z, (((Y.setCell ⟨w.heap.size + 1, 0, none⟩ (.slice A1 s.river.length c1)).setCell ⟨w.heap.size + 1, 1, none⟩ (.slice (some ⟨g, 0, none⟩) s.boards.length cg)).setCell ⟨w.heap.size + 1, 2, none⟩ (.slice A3 s.leaks.length c3)).setCell ⟨w.heap.size + 1, 3, none⟩ (.slice A4 s.losses.length c4) = Z := ⟨_, rfl⟩
 obtain ⟨p0, p1, p2, p3, gz⟩ := set4b r0 r1 r2 r3 _ _ _ _ hZ
 rw [hZ]
 clear hZ
 refine bodyPost_ret (v := .agg #[.slice A1 s.river.length c1, .slice (some ⟨g, 0, none⟩) s.boards.length cg, .slice A3 s.leaks.length c3, .slice A4 s.losses.length c4]) (by simp [results, Try.results37, go_sem, p0, p1, p2, p3]) rfl ?_
 have bz := HB.out.trans (gz.below (fun k hk => by simp at hk; omega) HB.out.size)
 have hZs : w.heap.size ≤ Z.heap.size := bz.size
 refine ⟨_, rfl, ⟨_, _, _, _, rfl, (HS.out.parts.1).up hZs bz, ?_, (HS.out.parts.2.2.1).up hZs bz, (HS.out.parts.2.2.2).up hZs bz⟩, bz⟩
 have := (OY.out.grown gz (fun b hb hm => by have := (OY.out.lt b hb).1; simp at hm; omega)).rr EI (by rw [List.length_set]; have := HL.out; show s.boards.length ≤ 1000000000000000; omega)
 exact this
end Go.Proofs.Ytkoacclbempmdaa

/- Contract of the specification's Rests. -/
namespace Go.Proofs.Ytkoacclbempmdaa
open Go.RowKit
attribute [local go_sem] Oper.semAt_some

theorem infoSp2 : (Try.prog.info? 40).map (fun i => (i.zero, i.size, i.bytes)) = some (some (.agg #[.int .i64 0, .int .i64 0]), 2, 16) := by kernel_rfl
/-- A literal without elements, onto which a list of spans is appended. -/
theorem copyS {w W : World} {A : Option Addr} {c base q : Nat} {ys : List (Int × Int)} (hq : W.heap[q]? = some (.cells #[] 40 (0, 0))) (hbq : base ≤ q) (hy : RR enc2 w.heap.size (.slice A ys.length c) ys w) (hb : Below w.heap.size w W) (hl : ys.length ≤ 1000) :
  ∃ v' W', (Builtin.append_ #[44, 44] 44 #[.slice (some ⟨q, 0, none⟩) 0 0, .slice A ys.length c]).run Try.prog W = .ok v' W' ∧ OwnG enc2 2 40 base v' ys W' ∧ GrownL [q] W W' := by
 obtain ⟨i0, hz0, hj0, hj1, hj2⟩ := info_parts infoSp2
 have hqs : q < W.heap.size := (Array.getElem?_eq_some_iff.1 hq).1
 obtain ⟨v', W', r1, o1, g1, s1⟩ := app_list (P := Try.prog) (base := base) E2 Try.underlying44 hz0 hj0 hj1 hj2 rfl (OwnG.lit0 enc2 2 40 (W := W) (g := q) hq hbq) hy hb (by omega) (by simp) (by omega) (by decide)
 exact ⟨v', W', r1, o1, g1⟩
/-- A list of spans of one's own lies in no block of another kind. -/
theorem own_ne {base g : Nat} {v : Value} {l : List (Int × Int)} {W : World} {arr : Array Value} {t : TypeId} {k : Nat × Nat} (h : OwnG enc2 2 40 base v l W) (hg : W.heap[g]? = some (.cells arr t k)) (ht : t ≠ 40) : v.ownBlock ≠ some g := fun hb => by
 rcases h.2 with ⟨rfl, _⟩ | ⟨b, cap, cur, rfl, _, hgg, _⟩
 ·simp [Value.ownBlock] at hb
 ·simp [Value.ownBlock] at hb
  subst hb
  rw [hg] at hgg
  cases hgg
  exact ht rfl
section
variable {ops : Array Oper} {o : Oper} {a : Act} {w : World} {K : Act → World → Prop} {Q : Exit → Act → World → Prop} {E : Prop}
/-- An append whose run is known, as a step of a region that draws. -/
theorem step_app (hg : o.guard = none) (s x : Operand) (t1 t2 : TypeId) (hop : o.op = Op.call { callee := Callee.builtin Builtin.append, args := #[s, x], argTypes := #[t1, t2] }) (u y : Value) (hs : a.eval s = u) (hx : a.eval x = y) {v' : Value} {w' : World}
  (hrun : (Builtin.append_ #[t1, t2] o.type #[u, y]).run Try.prog w = .ok v' w') (hK : K (a.put o.dst v') w') : if Region.wanted o (yielded ops a.tmps) = true then Oper.wp Try.prog o a w K Q else E := by
 have hw : Region.wanted o (yielded ops a.tmps) = true := by simp [Region.wanted, hg]
 rw [if_pos hw]
 unfold Oper.wp
 simp [execOp, hop, resolve, invoke, builtin, hs, hx, hrun, Result.andThen]
 exact hK
end

set_option maxHeartbeats 16000000 in
set_option maxRecDepth 1000000 in
theorem rRests_any (v cv : Value) (ws : Wk) (s : Ca) (id i d : Int) (w : World) (h : RK w.heap.size v ws w) (ht : total ws ≤ 100000) (hs : RCa w.heap.size cv s w) (hd : CasAt ws s id i d) :
  Calls Try.prog 70 #[.agg #[v], cv, .int .i64 id] w fun e w' => ∃ u, e = .returned (.agg #[u, .int .i64 d]) ∧ OwnG encI 1 3 w.heap.size u (okL d (restsL ws s id i.toNat)) w' ∧ Below w.heap.size w w' := by
 obtain ⟨i0, hz0, hj0, hj1, hj2⟩ := info_parts infoInt
 obtain ⟨A, c, rfl, -⟩ := (show ∃ A c, v = .slice A ws.length c ∧ True by obtain ⟨A, c, e, _⟩ := h; exact ⟨A, c, e, trivial⟩)
 obtain ⟨B1, b1, B2, b2, rfl⟩ := hs.form
 have H := Lib.hid h
 have HSS := Lib.hid hs
 have C1 := Lib.hid fun W (hb : Below w.heap.size w W) => rcasedAt_any (.slice A ws.length c) _ ws s id i d W (h.up hb.size hb) ht (hs.up hb.size hb) hd
 have C2 := Lib.hid fun W (hb : Below w.heap.size w W) => routlets_any A ws.length c ws W (h.up hb.size hb) ht
 have S0 := Lib.hid ((CW.new w (.slice A ws.length c) (.slice B1 s.river.length b1) (.slice B2 s.boards.length b2)).below ((Below.refl _ _).alloc (Nat.le_refl _) (.cells #[.slice none 0 0, .int .i64 0] 86)))
 have R0 : Hid (R2B (w.heap.size + 1 + 1) (((w.alloc (.cells #[.slice A ws.length c] 24)).alloc (.cells #[.slice B1 s.river.length b1, .slice B2 s.boards.length b2] 46)).alloc (.cells #[.slice none 0 0, .int .i64 0] 86))) := Lib.hid ⟨by simp [go_sem], by simp [go_sem], by simp [go_sem], by simp [go_sem]⟩
 have HD := Lib.hid hd
 clear h hs hd
 go_enter Try.func70, Try.ntmps70
 go_wp2_with fail
 refine (C1.out _ S0.out.bel).mono ?_
 rintro e w1 ⟨rfl, bb1⟩
 have S := Lib.hid (S0.out.below bb1)
 have R := Lib.hid (R0.out.below bb1)
 clear bb1 S0 C1 R0
 by_cases hd0 : d = 0
 ·subst hd0
  obtain ⟨hw, hc, n, pi, rfl, hf, hpi⟩ := HD.out.ok
  have hpid := fst_id hf hpi
  have HW := Lib.hid hw
  have HC := Lib.hid hc
  have CE := Lib.hid fun (t : Ca) (ht : CaOk ws t) (cv : Value) W (hb : Below w.heap.size w W) (hs' : RCa W.heap.size cv t W) => (by have hh := rends_any A c cv ws t n pi W (H.out.up hb.size hb) hs' hw ht hpi; rwa [hpid] at hh)
  obtain ⟨lo, hlo⟩ : ∃ f, flE ws s id n 1 = f := ⟨_, rfl⟩
  obtain ⟨hi, hhi⟩ : ∃ f, flE ws s id n (-1) = f := ⟨_, rfl⟩
  obtain ⟨P, hP⟩ : ∃ P, restB ws s id n lo hi = P := ⟨_, rfl⟩
  have HPP := Lib.hid hP
  have HLH := Lib.hid (And.intro hlo hhi)
  have HRL : Hid (restsL ws s id n = idsQ P (allP ws)) := Lib.hid (by unfold restsL; rw [hlo, hhi, hP])
  have x0 := S.out.wk
  clear hw hc hf hpi hlo hhi hP hpid
  go_wp2_with fail
  refine (C2.out _ S.out.bel).mono ?_
  rintro e w3 ⟨lv, rfl, hlv, b3⟩
  have S3 := Lib.hid (S.out.below b3)
  have R3 := Lib.hid (R.out.below b3)
  have RL := Lib.hid (rl_in hlv (H.out.up S.out.bel.size S.out.bel) b3 b3.size ht)
  obtain ⟨Al, cl, rfl, -⟩ := hlv.form
  rw [outs_len] at RL ⊢
  obtain ⟨nt, hnt⟩ : ∃ nt, total ws = nt := ⟨_, rfl⟩
  have HNT := Lib.hid hnt
  have h60 : nt ≤ 60 := by rw [← hnt]; exact HW.out.tot
  have h600 : (nt : Int) ≤ 60 := by omega
  rw [hnt] at RL ⊢
  have HSZ : Hid (w.heap.size + 2 ≤ w3.heap.size) := Lib.hid S3.out.siz
  clear hlv b3 x0 hnt
  go_wp2_with fail
  go_loopw [10, 11] (fun o i wr => ∃ k : Nat, i = .int .i64 k ∧ k ≤ nt ∧ OwnG encI 1 3 w3.heap.size o (idsQ P ((allP ws).take k)) wr ∧ Below w3.heap.size w3 wr) (fun _ i _ => nt - (intOf i).toNat)
  case atStart => exact ⟨0, rfl, by omega, OwnG.nil _ _ _ _ _, Below.refl _ _⟩
  case round =>
   obtain ⟨k, rfl, hk, hO, hb⟩ := hrel
   have HO := Lib.hid hO
   have HB := Lib.hid hb
   have S4 := Lib.hid (S3.out.below hb)
   have R4 := Lib.hid (R3.out.below hb)
   have RL4 := Lib.hid (RL.out.up hb.size hb)
   have hln : (idsQ P ((allP ws).take k)).length ≤ 60 := Nat.le_trans (idsQ_len _ _) (by rw [List.length_take]; omega)
   have x0 := S4.out.wk
   have x1 := S4.out.ca
   have x2 := S4.out.cb
   clear hO hb
   by_cases hkl : k < nt
   ·have hk0 : (k : Int) < (nt : Int) := by omega
    obtain ⟨p, hp⟩ := at_total (ws := ws) (n := k) (by have := HNT.out; omega)
    have HP := Lib.hid hp
    have hpo := (outs_get hp).1
    have hat : p.at_ = k := (allP_inv hp).1
    have HWK := Lib.hid (wider_ok HW.out HC.out hp)
    obtain ⟨f1, hf1⟩ : ∃ f, flE ws (wider s p) id n 1 = f := ⟨_, rfl⟩
    obtain ⟨f2, hf2⟩ : ∃ f, flE ws (wider s p) id n (-1) = f := ⟨_, rfl⟩
    have CE1 := Lib.hid (CE.out (wider s p) HWK.out)
    have CE2 := Lib.hid (CE.out s HC.out)
    rw [hf1, hf2] at CE1
    rw [HLH.out.1, HLH.out.2] at CE2
    have HV : Hid (P p = !(decide (f1 = lo) && decide (f2 = hi))) := Lib.hid (by rw [← HPP.out]; unfold restB; rw [hf1, hf2])
    have HTK : Hid ((allP ws).take (k + 1) = (allP ws).take k ++ [p]) := Lib.hid (take_at hp)
    have hpl : (p.o.ps.length : Int) ≤ 8 := by have := (HW.out.ou hp).pu; omega
    have hlb : k < s.boards.length := by rw [HC.out.b, HNT.out]; exact hkl
    have hlb0 : (k : Int) < (s.boards.length : Int) := by omega
    have HL60 : Hid (s.boards.length ≤ 60) := Lib.hid (by rw [HC.out.b]; exact HW.out.tot)
    obtain ⟨l, hl⟩ : ∃ l, idsQ P ((allP ws).take k) = l := ⟨_, rfl⟩
    rw [hl] at HO hln
    have HLL := Lib.hid hl
    obtain ⟨bo, oo, rfl, hbo, hca⟩ := ro_at RL4.out hpo
    have HCA := Lib.hid hca
    clear hp hf1 hf2 hl hca hpo
    go_upto_region 9 with fail
    go_cut [12] (fun s12 wx => ∃ (g : Nat) (v : Value), s12 = .pointer (some ⟨g, 0, none⟩) ∧ Rs1 wr g (.slice B1 s.river.length b1) v s.boards wx)
    case first =>
     obtain ⟨Wd, hWd⟩ : ∃ Wd, World.drew wr = Wd := ⟨_, rfl⟩
     have bD : Below wr.heap.size wr Wd := by rw [← hWd]; exact (Below.refl _ _).drew
     have HD_ : Hid (Below wr.heap.size wr Wd) := Lib.hid bD
     have hzd : wr.heap.size ≤ Wd.heap.size := bD.size
     have k1 := BelS.c bD x1
     have k2 := BelS.c bD x2
     have HWd := Lib.hid hWd
     have HBW : Hid (Below w.heap.size w wr) := Lib.hid S4.out.bel
     clear hWd bD
     refine wp_region_T 8 (S := BelS Wd) (by kernel_rfl) (by rw [HWd.out]; exact Below.refl _ _) (fun J0 => ?_)
     rw [HWd.out] at J0 ⊢
     refine tt 0 32 J0 ?_ (hy := by intro w' hSw; have r0 := hSw.c k1; have r1 := hSw.c k2; go_simp; try with_reducible rfl)
     try simp only [aS]
     refine tt 1 33 J0 ?_ (hy := by intro w' hSw; have r0 := hSw.c k1; have r1 := hSw.c k2; go_simp; try with_reducible rfl)
     try simp only [aS]
     refine tt 3 35 J0 ?_ (hy := by intro w' hSw; have r0 := hSw.c k1; have r1 := hSw.c k2; go_simp; try with_reducible rfl)
     try simp only [aS]
     refine tt 4 36 J0 ?_ (hy := by intro w' hSw; have r0 := hSw.c k1; have r1 := hSw.c k2; go_simp; try with_reducible rfl)
     try simp only [aS]
     have RB := HSS.out.parts.2
     refine twoT (i := 2) (j := 7) (by kernel_rfl) rfl rfl (fun K hK => ?_) (fun K hK => ?_)
     ·go_simp
      obtain ⟨wa, hq_⟩ : ∃ W_, Wd.alloc (.cells #[] 40) = W_ := ⟨_, rfl⟩
      have qa : wa.heap[Wd.heap.size]? = some (.cells #[] 40 (0, 0)) := by rw [← hq_]; exact World.alloc_heap_new Wd _
      have ba : Below Wd.heap.size Wd wa := by rw [← hq_]; exact (Below.refl _ _).alloc (Nat.le_refl _) _
      have Ja := J0.below ba
      have hza : Wd.heap.size < wa.heap.size := (Array.getElem?_eq_some_iff.1 qa).1
      rw [hq_]
      clear hq_
      refine hK.out _ _ Ja ?_
      clear hK K
      try simp only [aS]
      refine twoT (i := 5) (j := 7) (by kernel_rfl) rfl rfl (fun K hK => ?_) (fun K hK => ?_)
      ·skip
       obtain ⟨v', wb, r1, o1, g1⟩ := copyS qa (A := B2) (c := b2) (base := wr.heap.size) (by have := Below.size J0; omega) RB (HBW.out.trans ((HD_.out.trans (Below.mono Ja hzd)).mono HBW.out.size)) (by have := HL60.out; omega)
       have gz := g1.size
       have Jb : BelS Wd wb := Ja.trans (g1.below (by intro b hb; simp at hb; have := Below.size J0; omega) (by have := Below.size Ja; omega))
       refine step_app rfl _ _ _ _ rfl _ _ rfl rfl r1 ?_
       obtain ⟨A', c', rfl, -⟩ := o1.form
       refine hK.out _ _ Jb ?_
       clear hK K
       try simp only [aS]
       refine tt 6 38 Jb ?_
       try simp only [aS]
       refine oneT (i := 7) (by kernel_rfl) rfl (fun K hK => ?_)
       go_simp
       obtain ⟨wc, hq_⟩ : ∃ W_, wb.alloc (.cells #[.slice none 0 0, .slice none 0 0] 46) = W_ := ⟨_, rfl⟩
       obtain ⟨g, hge⟩ : ∃ g, wb.heap.size = g := ⟨_, rfl⟩
       have ga : wc.heap[g]? = some (.cells #[.slice none 0 0, .slice none 0 0] 46 (0, 0)) := by rw [← hq_, ← hge]; exact World.alloc_heap_new wb _
       have tg : wc.there g 0 2 := by rw [← hq_, ← hge]; exact twoZ _
       have bg : Below wb.heap.size wb wc := by rw [← hq_]; exact (Below.refl _ _).alloc (Nat.le_refl _) _
       have hg : g < wc.heap.size := there_lt tg (by decide)
       have Jc := Jb.below bg
       rw [hq_]
       try rw [hge]
       clear hq_
       refine hK.out _ _ Jc ?_
       clear hK K
       try simp only [aS]
       have o2 := o1.below bg
       have ga2 := ga
       have tg2 := tg
       refine lastT (by kernel_rfl) rfl (fun K hK => ?_)
       have nv : (Value.slice A' s.boards.length c').ownBlock ≠ some g := own_ne o2 ga2 (by decide)
       have RS := run_storeAt_mid (P := Try.prog) wc g 0 46 #[.slice B1 s.river.length b1, .slice A' s.boards.length c'] tg2 (by kernel_rfl) (all_oneCell_toArray (cs := [.slice B1 s.river.length b1, .slice A' s.boards.length c']) (fun v hv => by simp at hv; rcases hv with rfl | rfl <;> rfl))
       rw [if_pos (by rfl)]
       refine wp_store_run 46 _ _ rfl (u := .pointer (some ⟨g, 0, none⟩)) (v := .agg #[.slice B1 s.river.length b1, .slice A' s.boards.length c']) rfl rfl RS ?_
       refine hK.out _ _ ?_
       clear hK K
       refine doneT (by kernel_rfl) ?_ _
       have ER := Lib.hid (Rs1.make (W2 := wr) (g := g) (by have := Below.size J0; omega) (HD_.out.trans (Below.mono Jc hzd)) tg2 o2 nv (.slice B1 s.river.length b1))
       go_wp2_with fail
       go_meet
       exact ⟨g, _, rfl, ER.out⟩
      ·skip
       go_simp
       obtain ⟨wb, hq_⟩ : ∃ W_, wa.alloc (.cells #[.slice none 0 0, .slice none 0 0] 46) = W_ := ⟨_, rfl⟩
       obtain ⟨g, hge⟩ : ∃ g, wa.heap.size = g := ⟨_, rfl⟩
       have ga : wb.heap[g]? = some (.cells #[.slice none 0 0, .slice none 0 0] 46 (0, 0)) := by rw [← hq_, ← hge]; exact World.alloc_heap_new wa _
       have tg : wb.there g 0 2 := by rw [← hq_, ← hge]; exact twoZ _
       have bg : Below wa.heap.size wa wb := by rw [← hq_]; exact (Below.refl _ _).alloc (Nat.le_refl _) _
       have hg : g < wb.heap.size := there_lt tg (by decide)
       have Jb := Ja.below bg
       rw [hq_]
       try rw [hge]
       clear hq_
       refine hK.out _ _ Jb ?_
       clear hK K
       try simp only [aS]
       refine oneT (i := 5) (by kernel_rfl) rfl (fun K hK => ?_)
       have qb := ((GrownL.of_below (bs := []) bg).block _ (by omega) (by simp)).trans qa
       obtain ⟨v', wc, r1, o1, g1⟩ := copyS qb (A := B2) (c := b2) (base := wr.heap.size) (by have := Below.size J0; omega) RB (HBW.out.trans ((HD_.out.trans (Below.mono Jb hzd)).mono HBW.out.size)) (by have := HL60.out; omega)
       have gz := g1.size
       have Jc : BelS Wd wc := Jb.trans (g1.below (by intro b hb; simp at hb; have := Below.size J0; omega) (by have := Below.size Jb; omega))
       refine step_app rfl _ _ _ _ rfl _ _ rfl rfl r1 ?_
       obtain ⟨A', c', rfl, -⟩ := o1.form
       refine hK.out _ _ Jc ?_
       clear hK K
       try simp only [aS]
       refine tt 6 38 Jc ?_
       try simp only [aS]
       have o2 := o1
       have ga2 := (g1.block g hg (by simp; omega)).trans ga
       have tg2 := there_grown tg hg g1 (by simp; omega)
       refine lastT (by kernel_rfl) rfl (fun K hK => ?_)
       have nv : (Value.slice A' s.boards.length c').ownBlock ≠ some g := own_ne o2 ga2 (by decide)
       have RS := run_storeAt_mid (P := Try.prog) wc g 0 46 #[.slice B1 s.river.length b1, .slice A' s.boards.length c'] tg2 (by kernel_rfl) (all_oneCell_toArray (cs := [.slice B1 s.river.length b1, .slice A' s.boards.length c']) (fun v hv => by simp at hv; rcases hv with rfl | rfl <;> rfl))
       rw [if_pos (by rfl)]
       refine wp_store_run 46 _ _ rfl (u := .pointer (some ⟨g, 0, none⟩)) (v := .agg #[.slice B1 s.river.length b1, .slice A' s.boards.length c']) rfl rfl RS ?_
       refine hK.out _ _ ?_
       clear hK K
       refine doneT (by kernel_rfl) ?_ _
       have ER := Lib.hid (Rs1.make (W2 := wr) (g := g) (by have := Below.size J0; omega) (HD_.out.trans (Below.mono Jc hzd)) tg2 o2 nv (.slice B1 s.river.length b1))
       go_wp2_with fail
       go_meet
       exact ⟨g, _, rfl, ER.out⟩
     ·skip
      go_simp
      obtain ⟨wa, hq_⟩ : ∃ W_, Wd.alloc (.cells #[.slice none 0 0, .slice none 0 0] 46) = W_ := ⟨_, rfl⟩
      obtain ⟨g, hge⟩ : ∃ g, Wd.heap.size = g := ⟨_, rfl⟩
      have ga : wa.heap[g]? = some (.cells #[.slice none 0 0, .slice none 0 0] 46 (0, 0)) := by rw [← hq_, ← hge]; exact World.alloc_heap_new Wd _
      have tg : wa.there g 0 2 := by rw [← hq_, ← hge]; exact twoZ _
      have bg : Below Wd.heap.size Wd wa := by rw [← hq_]; exact (Below.refl _ _).alloc (Nat.le_refl _) _
      have hg : g < wa.heap.size := there_lt tg (by decide)
      have Ja := J0.below bg
      rw [hq_]
      try rw [hge]
      clear hq_
      refine hK.out _ _ Ja ?_
      clear hK K
      try simp only [aS]
      refine oneT (i := 2) (by kernel_rfl) rfl (fun K hK => ?_)
      go_simp
      obtain ⟨wb, hq_⟩ : ∃ W_, wa.alloc (.cells #[] 40) = W_ := ⟨_, rfl⟩
      have qa : wb.heap[wa.heap.size]? = some (.cells #[] 40 (0, 0)) := by rw [← hq_]; exact World.alloc_heap_new wa _
      have ba : Below wa.heap.size wa wb := by rw [← hq_]; exact (Below.refl _ _).alloc (Nat.le_refl _) _
      have Jb := Ja.below ba
      have hza : wa.heap.size < wb.heap.size := (Array.getElem?_eq_some_iff.1 qa).1
      rw [hq_]
      clear hq_
      refine hK.out _ _ Jb ?_
      clear hK K
      try simp only [aS]
      refine oneT (i := 5) (by kernel_rfl) rfl (fun K hK => ?_)
      have tg1 := there_below tg hg ba
      have ga1 := ((GrownL.of_below (bs := []) ba).block _ hg (by simp)).trans ga
      obtain ⟨v', wc, r1, o1, g1⟩ := copyS qa (A := B2) (c := b2) (base := wr.heap.size) (by have := Below.size J0; omega) RB (HBW.out.trans ((HD_.out.trans (Below.mono Jb hzd)).mono HBW.out.size)) (by have := HL60.out; omega)
      have gz := g1.size
      have Jc : BelS Wd wc := Jb.trans (g1.below (by intro b hb; simp at hb; have := Below.size J0; omega) (by have := Below.size Jb; omega))
      refine step_app rfl _ _ _ _ rfl _ _ rfl rfl r1 ?_
      obtain ⟨A', c', rfl, -⟩ := o1.form
      refine hK.out _ _ Jc ?_
      clear hK K
      try simp only [aS]
      refine tt 6 38 Jc ?_
      try simp only [aS]
      have o2 := o1
      have ga2 := (g1.block g (by omega) (by simp; omega)).trans ga1
      have tg2 := there_grown tg1 (by omega) g1 (by simp; omega)
      refine lastT (by kernel_rfl) rfl (fun K hK => ?_)
      have nv : (Value.slice A' s.boards.length c').ownBlock ≠ some g := own_ne o2 ga2 (by decide)
      have RS := run_storeAt_mid (P := Try.prog) wc g 0 46 #[.slice B1 s.river.length b1, .slice A' s.boards.length c'] tg2 (by kernel_rfl) (all_oneCell_toArray (cs := [.slice B1 s.river.length b1, .slice A' s.boards.length c']) (fun v hv => by simp at hv; rcases hv with rfl | rfl <;> rfl))
      rw [if_pos (by rfl)]
      refine wp_store_run 46 _ _ rfl (u := .pointer (some ⟨g, 0, none⟩)) (v := .agg #[.slice B1 s.river.length b1, .slice A' s.boards.length c']) rfl rfl RS ?_
      refine hK.out _ _ ?_
      clear hK K
      refine doneT (by kernel_rfl) ?_ _
      have ER := Lib.hid (Rs1.make (W2 := wr) (g := g) (by have := Below.size J0; omega) (HD_.out.trans (Below.mono Jc hzd)) tg2 o2 nv (.slice B1 s.river.length b1))
      go_wp2_with fail
      go_meet
      exact ⟨g, _, rfl, ER.out⟩
    case rest =>
     obtain ⟨g, v, rfl, hE⟩ := hcut
     obtain ⟨Av, cv_, rfl, hAv⟩ := hE.o.form
     obtain ⟨gb, rfl⟩ := hAv (by omega)
     have HE := Lib.hid hE
     obtain ⟨sv, hsv⟩ : ∃ sv, s.boards[k]? = some sv := ⟨_, List.getElem?_eq_getElem hlb⟩
     have hat0 : (s.boards.flatMap enc2)[k * 2 + 0]? = some (.int .i64 sv.1) := (E2.at_ _ _ 0 _ hsv (by decide)).trans rfl
     have hat1 : (s.boards.flatMap enc2)[k * 2 + 1]? = some (.int .i64 sv.2) := (E2.at_ _ _ 1 _ hsv (by decide)).trans rfl
     have y0 : wc.cell? ⟨gb, k * 2, none⟩ = some (.int .i64 sv.1) := (World.ownsRow.cellAt hE.o (k * 2) (by omega)).trans hat0
     have y1 : wc.cell? ⟨gb, k * 2 + 1, none⟩ = some (.int .i64 sv.2) := (World.ownsRow.cellAt hE.o (k * 2 + 1) (by omega)).trans hat1
     have z0 := World.ownsRow.frozenAt hE.o (k * 2)
     have z1 := World.ownsRow.frozenAt hE.o (k * 2 + 1)
     have k1 := hE.c1
     have o2 := (hE.bel.cell (p := ⟨bo, oo + k * 7 + 2, none⟩) hbo).trans HCA.out.pv
     have hwr : IntKind.i64.wrap ((p.o.ps.length : Int) - 1) = (p.o.ps.length : Int) - 1 := IntWalk.i64_in _ (by omega)
     have HE0 := Lib.hid hE.c0
     have hgn : g ≠ gb := fun e => hE.n (by rw [e]; rfl)
     have HGN : Hid (g ≠ gb ∧ wr.heap.size ≤ gb ∧ wr.heap.size ≤ g) := Lib.hid ⟨hgn, (hE.o.lt gb rfl).1, hE.ge⟩
     clear hE hsv hat0 hat1 hAv hgn x0 x1 x2
     go_upto_region 10 with fail
     go_region
     obtain ⟨W5, hW5⟩ : ∃ W5, (wc.setCell ⟨gb, k * 2, none⟩ (.int .i64 0)).setCell ⟨gb, k * 2 + 1, none⟩ (.int .i64 ((p.o.ps.length : Int) - 1)) = W5 := ⟨_, rfl⟩
     have g5 : GrownL [gb] wc W5 := by rw [← hW5]; exact (GrownL.set _ _ _ (by simp)).trans (GrownL.set _ _ _ (by simp))
     have O5 : OwnG enc2 2 40 wr.heap.size (.slice (some ⟨gb, 0, none⟩) s.boards.length cv_) (s.boards.set k (0, (p.o.ps.length : Int) - 1)) W5 := by rw [← hW5]; exact HE.out.o.set2 rfl k (0, (p.o.ps.length : Int) - 1)
     rw [hW5]
     have hgn := HGN.out
     have q0 := g5.cell HE0.out (by simpa using hgn.1)
     have q1 := g5.cell k1 (by simpa using hgn.1)
     obtain ⟨W6, hW6⟩ : ∃ W6, World.drew W5 = W6 := ⟨_, rfl⟩
     have b56 : Below W5.heap.size W5 W6 := by rw [← hW6]; exact (Below.refl _ _).drew
     have BWR : Hid (Below wr.heap.size wr W6) := Lib.hid ((HE.out.bel.trans (g5.below (by simp; omega) HE.out.bel.size)).trans (b56.mono (by have := g5.size; have := HE.out.bel.size; omega)))
     have S6 := Lib.hid (S4.out.below BWR.out)
     have R6 := Lib.hid (R4.out.below BWR.out)
     have RL6 := Lib.hid (RL4.out.up BWR.out.size BWR.out)
     have O6 := Lib.hid (O5.below b56)
     have HO6 := Lib.hid (HO.out.below BWR.out)
     have HB6 := Lib.hid (HB.out.trans (BWR.out.mono HB.out.size))
     have q0 := BelS.c b56 q0
     have q1 := BelS.c b56 q1
     have HRC : Hid (∀ W, Below W6.heap.size W6 W → RCa W.heap.size (.agg #[.slice B1 s.river.length b1, .slice (some ⟨gb, 0, none⟩) s.boards.length cv_]) (wider s p) W) := Lib.hid fun W hb => ⟨_, _, rfl, (HSS.out.parts.1).up (S6.out.bel.trans (hb.mono S6.out.bel.size)).size (S6.out.bel.trans (hb.mono S6.out.bel.size)), ((by have hx := (O6.out.below hb).rr E2 (by rw [List.length_set]; have := HL60.out; show s.boards.length ≤ 1000000000000000; omega); unfold wider; rw [hat]; exact hx))⟩
     have y0' := S6.out.wk
     have y1' := S6.out.ca
     have y2' := S6.out.cb
     rw [hW6]
     clear hW5 hW6 g5 O5 b56 y0 y1 z0 z1 k1 o2 hgn BWR S4 R4 RL4 HO HB HE HE0
     go_upto_region 11 with fail
     refine wp_region_held_drew (S := BelS W6) (by kernel_rfl) (BelS.drew0 _) (fun J0 => ?_)
     refine tw 0 51 J0 ?_ (hy := by intro w' hSw; have r0 := hSw.c y0'; go_simp; try with_reducible rfl)
     try simp only [aS]
     refine tw 1 52 J0 ?_ (hy := by intro w' hSw; have r0 := hSw.c q0; have r1 := hSw.c q1; go_simp; try with_reducible rfl)
     try simp only [aS]
     refine tw 2 53 J0 ?_
     try simp only [aS]
     refine tw 5 56 J0 ?_ (hy := by intro w' hSw; have r0 := hSw.c y0'; go_simp; try with_reducible rfl)
     try simp only [aS]
     refine tw 6 57 J0 ?_ (hy := by intro w' hSw; have r0 := hSw.c y1'; have r1 := hSw.c y2'; go_simp; try with_reducible rfl)
     try simp only [aS]
     refine tw 7 58 J0 ?_
     try simp only [aS]
     refine wpAnyH_ready (rs := [3]) (by kernel_rfl) (by simp) ?_
     refine AllReadyH.cons rfl (fun K hK => ?_) AllReadyH.nil
     go_simp
     refine (CE1.out _ _ (S6.out.bel.trans ((BelS.b J0).mono S6.out.bel.size)) (HRC.out _ (BelS.b J0))).mono ?_
     rintro e wq1 ⟨a1, a2, a3, a4, d1, d2, d3, d4, rfl, -, -, bq⟩
     have J1 := J0.below bq
     clear bq
     refine hK.out _ _ J1 (fun _ => ?_)
     clear hK K
     try simp only [aS]
     refine tw 4 55 J1 ?_ (hy := by intro w' hSw; have sf := sup_flow f1 f2 w' (a1 := a1) (a2 := a2) (a3 := a3) (a4 := a4) (d1 := d1) (d2 := d2) (d3 := d3) (d4 := d4); go_simp; try with_reducible rfl)
     try simp only [aS]
     refine wpAnyH_ready (rs := [8]) (by kernel_rfl) (by simp) ?_
     refine AllReadyH.cons rfl (fun K hK => ?_) AllReadyH.nil
     go_simp
     refine (CE2.out _ _ (S6.out.bel.trans ((BelS.b J1).mono S6.out.bel.size)) (HSS.out.up (S6.out.bel.trans ((BelS.b J1).mono S6.out.bel.size)).size (S6.out.bel.trans ((BelS.b J1).mono S6.out.bel.size)))).mono ?_
     rintro e wq2 ⟨e1, e2, e3, e4, h1, h2, h3, h4, rfl, -, -, bq⟩
     have J2 := J1.below bq
     clear bq
     refine hK.out _ _ J2 (fun _ => ?_)
     clear hK K
     try simp only [aS]
     refine tw 9 60 J2 ?_ (hy := by intro w' hSw; have sf := sup_flow lo hi w' (a1 := e1) (a2 := e2) (a3 := e3) (a4 := e4) (d1 := h1) (d2 := h2) (d3 := h3) (d4 := h4); go_simp; try with_reducible rfl)
     try simp only [aS]
     refine takeW (i := 10) (d := some 61) (v := .bool (!(decide (f1 = lo) && decide (f2 = hi)))) rfl rfl (by kernel_rfl) (by kernel_rfl) (by kernel_rfl) (fun _ _ _ h => h) (by rfl) ?_ J2 ?_
     ·(intro w' hSw; go_simp; by_cases e1 : f1 = lo <;> by_cases e2 : f2 = hi <;> simp [e1, e2])
     try simp only [aS]
     refine wpAnyH_done (by kernel_rfl) ?_ _
     have S7 := Lib.hid (S6.out.below (BelS.b J2))
     have R7 := Lib.hid (R6.out.below (BelS.b J2))
     have RL7 := Lib.hid (RL6.out.up (BelS.b J2).size (BelS.b J2))
     have HO7 := Lib.hid (HO6.out.below (BelS.b J2))
     have HB7 := Lib.hid (HB6.out.trans ((BelS.b J2).mono HB6.out.size))
     obtain ⟨W7, hW7⟩ : ∃ W7, wq2 = W7 := ⟨_, rfl⟩
     rw [hW7] at S7 R7 RL7 HO7 HB7 ⊢
     clear hW7 J0 J1 J2 q0 q1 y0' y1' y2' S6 R6 RL6 HO6 HB6 O6 HRC
     obtain ⟨Au, cu, rfl, -⟩ := HO7.out.form
     by_cases hPp : P p = true
     ·have hfb : (!(decide (f1 = lo) && decide (f2 = hi))) = true := by rw [← HV.out]; exact hPp
      have hfb2 : (!decide (f1 = lo) || !decide (f2 = hi)) = true := by rw [← Bool.not_and]; exact hfb
      rw [hfb]
      try rw [hfb2]
      have HK : Hid (idsQ P ((allP ws).take (k + 1)) = l ++ [p.o.id]) := Lib.hid (by rw [HTK.out, idsQ_keep _ hPp, HLL.out])
      have z0 : W7.cell? ⟨bo, oo + k * 7, none⟩ = some (.int .i64 p.o.id) := by
       obtain ⟨b', o', e', -, hca'⟩ := ro_at RL7.out (outs_get HP.out).1
       simp only [Option.some.injEq, Addr.mk.injEq] at e'
       obtain ⟨rfl, rfl, -⟩ := e'
       exact hca'.id
      obtain ⟨m, hm⟩ : ∃ m, l.length = m := ⟨_, rfl⟩
      have HM := Lib.hid hm
      rw [hm] at hln HO7
      have R1 : Hid (W7.ownsRow w3.heap.size 3 1 (.slice Au m cu) m (l.flatMap encI)) := Lib.hid (by have := HO7.out; unfold OwnG at this; rwa [hm] at this)
      have hlt := HB7.out.size
      obtain ⟨pid, hpi⟩ : ∃ x, p.o.id = x := ⟨_, rfl⟩
      rw [hpi] at z0 HK
      rw [hm]
      clear hm hfb hfb2 hpi
      go_wp2_with (at_builtin; refine wpList_append_own_at _ rfl _ _ 25 rfl w3.heap.size 3 i0 (.int .i64 0) 1 8 Try.underlying25 hz0 hj0 hj1 hj2 rfl (by decide) _ m _ rfl (R1.out.alloc _) ⟨W7.heap.size, 0, none⟩ 1 1 [.int .i64 pid] rfl rfl (fun i u hi => one_news W7 (.int .i64 pid) 3 i u hi) (fun u hu => one_one pid u hu) ?c3 ?c4 ?c5 ?_)
      case c3 => unfold maxLen; omega
      case c4 => omega
      case c5 => first | (simp <;> omega) | omega
      intro v4 w4 hown4 hgrow4 _ hat4
      have O4 : Hid (OwnG encI 1 3 w3.heap.size v4 (l ++ [pid]) w4) := Lib.hid (own_snoc hown4 HM.out)
      have gr : GrownL (Value.slice Au m cu).ownBlock.toList W7 w4 := (GrownL.of_below ((Below.refl W7.heap.size W7).alloc (Nat.le_refl _) (.cells #[.int .i64 pid] 3))).trans (GrownL.of_row hgrow4)
      have B4 : Hid (Below w3.heap.size w3 w4) := Lib.hid (HB7.out.trans (gr.below (fun b hb => (HO7.out.lt b (by simpa using hb)).1) HB7.out.size))
      clear hown4 hgrow4 hat4 gr
      go_wp2_with fail
      go_roundw
      case rel => exact ⟨k + 1, by go_num, by omega, by rw [HK.out]; exact O4.out, B4.out⟩
      case measure => show nt - ((k : Int) + 1).toNat < nt - (k : Int).toNat; omega
     ·have hPp' : P p = false := by simpa using hPp
      have hfb : (!(decide (f1 = lo) && decide (f2 = hi))) = false := by rw [← HV.out]; exact hPp'
      have hfb2 : (!decide (f1 = lo) || !decide (f2 = hi)) = false := by rw [← Bool.not_and]; exact hfb
      rw [hfb]
      try rw [hfb2]
      have HK : Hid (idsQ P ((allP ws).take (k + 1)) = l) := Lib.hid (by rw [HTK.out, idsQ_drop _ hPp', HLL.out])
      clear hfb hfb2
      go_wp2_with fail
      go_roundw
      case rel => exact ⟨k + 1, by go_num, by omega, by rw [HK.out]; exact HO7.out, HB7.out⟩
      case measure => show nt - ((k : Int) + 1).toNat < nt - (k : Int).toNat; omega
   ·have hk0 : (nt : Int) ≤ (k : Int) := by omega
    obtain rfl : k = nt := by omega
    have HF : Hid ((allP ws).take k = allP ws) := Lib.hid (List.take_of_length_le (by rw [allP_len, HNT.out]; exact Nat.le_refl _))
    rw [HF.out] at HO hln
    obtain ⟨Au, cu, rfl, -⟩ := HO.out.form
    obtain ⟨l, hl⟩ : ∃ l, idsQ P (allP ws) = l := ⟨_, rfl⟩
    rw [hl] at HO hln HRL ⊢
    obtain ⟨m, hm⟩ : ∃ m, l.length = m := ⟨_, rfl⟩
    rw [hm] at HO ⊢
    have r0 := R4.out.c0
    have r1 := R4.out.c1
    have r2 := R4.out.f0
    have r3 := R4.out.f1
    clear hln hl hm x0 x1 x2
    go_wp2_with fail
    obtain ⟨X, hX, p0, p1, bb, gg⟩ := R4.out.ret S4.out.bel (by omega) (.slice Au m cu) 0
    rw [hX]
    clear hX
    refine bodyPost_ret (v := .agg #[.slice Au m cu, .int .i64 0]) (by simp [results, Try.results70, go_sem, p0, p1]) rfl ?_
    have hs2 := R3.out.lt
    exact ⟨_, rfl, by rw [okL_zero, Int.toNat_natCast, HRL.out]; exact (HO.out.grown gg (fun q hq hm => by have := (HO.out.lt q hq).1; simp at hm; omega)).low (by omega), bb⟩
 ·have HD0 := Lib.hid hd0
  have hdb : (d != 0) = true := by rw [bne_iff_ne]; exact hd0
  have r0 := R.out.c0
  have r1 := R.out.c1
  have r2 := R.out.f0
  have r3 := R.out.f1
  go_wp2_with fail
  obtain ⟨X, hX, p0, p1, bb, gg⟩ := R.out.ret S.out.bel (by omega) (.slice none 0 0) d
  rw [hX]
  clear hX
  refine bodyPost_ret (v := .agg #[.slice none 0 0, .int .i64 d]) (by simp [results, Try.results70, go_sem, p0, p1]) rfl ?_
  exact ⟨_, rfl, by rw [okL_ne HD0.out]; exact OwnG.nil _ _ _ _ _, bb⟩
end Go.Proofs.Ytkoacclbempmdaa

/- Contracts of Fits, and of the specification's Fits. -/
namespace Go.Proofs.Ytkoacclbempmdaa
open Go.RowKit

/-- What the law holds in its first blocks. -/
structure WCA (w : World) (vv0 va0 va1 vb0 vb1 vb2 vb3 : Value) (W : World) : Prop where
 v0 : W.cell? ⟨w.heap.size, 0, none⟩ = some vv0
 a0 : W.cell? ⟨w.heap.size + 1, 0, none⟩ = some va0
 a1 : W.cell? ⟨w.heap.size + 1, 1, none⟩ = some va1
 b0 : W.cell? ⟨w.heap.size + 1 + 1, 0, none⟩ = some vb0
 b1 : W.cell? ⟨w.heap.size + 1 + 1, 1, none⟩ = some vb1
 b2 : W.cell? ⟨w.heap.size + 1 + 1, 2, none⟩ = some vb2
 b3 : W.cell? ⟨w.heap.size + 1 + 1, 3, none⟩ = some vb3
 bel : Below w.heap.size w W
theorem WCA.new (w : World) (vv0 va0 va1 vb0 vb1 vb2 vb3 : Value) : WCA w vv0 va0 va1 vb0 vb1 vb2 vb3 (((w.alloc (.cells #[vv0] 24)).alloc (.cells #[va0, va1] 46)).alloc (.cells #[vb0, vb1, vb2, vb3] 27)) := ⟨by simp [go_sem], by simp [go_sem], by simp [go_sem], by simp [go_sem], by simp [go_sem], by simp [go_sem], by simp [go_sem], (((Below.refl _ _).alloc (Nat.le_refl _) _).alloc (by simp <;> omega) _).alloc (by simp <;> omega) _⟩
theorem WCA.below {w W W' : World} {vv0 va0 va1 vb0 vb1 vb2 vb3 : Value} (h : WCA w vv0 va0 va1 vb0 vb1 vb2 vb3 W) (hb : Below W.heap.size W W') : WCA w vv0 va0 va1 vb0 vb1 vb2 vb3 W' := ⟨BelS.c hb h.v0, BelS.c hb h.a0, BelS.c hb h.a1, BelS.c hb h.b0, BelS.c hb h.b1, BelS.c hb h.b2, BelS.c hb h.b3, h.bel.trans (hb.mono h.bel.size)⟩
/-- What Fits says. -/
def FitR (ws : Wk) (s : Ca) (t : Wa) (b : Bool) (d : Int) : Prop := (CasIs ws s d ∧ d ≠ 0 ∧ b = false) ∨ (CasIs ws s 0 ∧ ¬ WaOk ws t ∧ d = 1 ∧ b = false) ∨ (CasIs ws s 0 ∧ WaOk ws t ∧ d = 0 ∧ b = (allIn t.river s.river && allIn t.boards s.boards))
theorem FitR.exists_ (ws : Wk) (s : Ca) (t : Wa) : ∃ b d, FitR ws s t b d := by
 obtain ⟨d, hd⟩ := CasIs.exists_ ws s
 by_cases h : d = 0
 ·subst h
  by_cases h2 : WaOk ws t
  ·exact ⟨_, 0, .inr (.inr ⟨hd, h2, rfl, rfl⟩)⟩
  ·exact ⟨false, 1, .inr (.inl ⟨hd, h2, rfl, rfl⟩)⟩
 ·exact ⟨false, d, .inl ⟨hd, h, rfl⟩⟩
theorem CasIs.chk0 {ws : Wk} {s : Ca} (h : CasIs ws s 0) : CheckIs ws 0 := by
 rcases h with ⟨_, h⟩ | ⟨_, _, h⟩ | ⟨h, _, _⟩
 ·exact absurd rfl h
 ·omega
 ·exact h
theorem CaOk.b100 {ws : Wk} {s : Ca} (hw : WOk ws) (h : CaOk ws s) : s.river.length ≤ 100000 ∧ s.boards.length ≤ 100000 := by
 have := headsL_len hw
 have := h.r
 have := h.b
 have := hw.tot
 omega
theorem WaOk.ca {ws : Wk} {s : Ca} {t : Wa} (h : WaOk ws t) (hc : CaOk ws s) : t.river.length = s.river.length ∧ t.boards.length = s.boards.length := by
 have h1 := h.r
 have h2 := hc.r
 have h3 := h.b
 have h4 := hc.b
 unfold headsL at h2
 rw [List.length_map] at h2
 omega

set_option maxHeartbeats 8000000 in
set_option maxRecDepth 1000000 in
theorem Fits_any (v cv wv : Value) (ws : Wk) (s : Ca) (t : Wa) (b : Bool) (d : Int) (w : World) (h : RK w.heap.size v ws w) (hq : total ws ≤ 100000) (hs : RCa w.heap.size cv s w) (ht : RWa w.heap.size wv t w) (hd : FitR ws s t b d) :
  Calls Try.prog 29 #[.agg #[v], cv, wv] w fun e w' => e = .returned (.tuple #[.bool b, .int .i64 d]) ∧ Below w.heap.size w w' := by
 obtain ⟨A, c, rfl, -⟩ := (show ∃ A c, v = .slice A ws.length c ∧ True by obtain ⟨A, c, e, _⟩ := h; exact ⟨A, c, e, trivial⟩)
 obtain ⟨A1, c1, A2, c2, rfl⟩ := hs.form
 obtain ⟨B1, d1, B2, d2, B3, d3, B4, d4, rfl⟩ := ht.form
 have C1 := Lib.hid fun (d : Int) (hc : CasIs ws s d) W (hb : Below w.heap.size w W) => CheckCase_any (.slice A ws.length c) _ ws s d W (h.up hb.size hb) (by omega) (hs.up hb.size hb) hc
 have C2 := Lib.hid fun (hk : CheckIs ws 0) (d : Int) (hd : (WaOk ws t ∧ d = 0) ∨ (¬ WaOk ws t ∧ d = 1)) W (hb : Below w.heap.size w W) => CheckWater_any (.slice A ws.length c) _ ws t d W (h.up hb.size hb) (by omega) (ht.up hb.size hb) (hd.elim (fun x => .inr (.inr ⟨hk, x⟩)) (fun x => .inr (.inl ⟨hk, x⟩)))
 have C3 := Lib.hid fun (hw : WOk ws) (hc : CaOk ws s) (ho : WaOk ws t) W (hb : Below w.heap.size w W) => fits_any (.slice A1 s.river.length c1) (.slice A2 s.boards.length c2) (.slice B1 t.river.length d1) (.slice B2 t.boards.length d2) (.slice B3 t.leaks.length d3) (.slice B4 t.losses.length d4) t.river t.boards s.river s.boards W (ht.parts.1.up hb.size hb) (ht.parts.2.1.up hb.size hb) (hs.parts.1.up hb.size hb) (hs.parts.2.up hb.size hb) (by have := ho.ca hc; omega) (by have := ho.ca hc; omega) (by have := hc.b100 hw; omega) (by have := hc.b100 hw; omega)
 have S0 := Lib.hid (WCA.new w (.slice A ws.length c) (.slice A1 s.river.length c1) (.slice A2 s.boards.length c2) (.slice B1 t.river.length d1) (.slice B2 t.boards.length d2) (.slice B3 t.leaks.length d3) (.slice B4 t.losses.length d4))
 have HD := Lib.hid hd
 clear h hs ht hd
 go_enter Try.func29, Try.ntmps29
 go_wp2_with fail
 rcases HD.out with ⟨hc, hd0, rfl⟩ | ⟨hc, hn, rfl, rfl⟩ | ⟨hc, ho, rfl, hb⟩
 ·have hdb : (d != 0) = true := by rw [bne_iff_ne]; exact hd0
  refine (C1.out d hc _ S0.out.bel).mono ?_
  rintro e w1 ⟨rfl, b1⟩
  have S1 := Lib.hid (S0.out.below b1)
  clear b1 hc
  go_wp2_with fail
  refine bodyPost_ret (results_tmp2 rfl _ _ _) rfl ?_
  exact ⟨rfl, S1.out.bel⟩
 all_goals
  refine (C1.out 0 hc _ S0.out.bel).mono ?_
  rintro e w1 ⟨rfl, b1⟩
  have S1 := Lib.hid (S0.out.below b1)
  have x0 := S1.out.v0
  have x1 := S1.out.b0
  have x2 := S1.out.b1
  have x3 := S1.out.b2
  have x4 := S1.out.b3
  have HK := Lib.hid hc
  clear b1 hc
 ·have HN := Lib.hid hn
  clear hn
  go_wp2_with fail
  refine (C2.out HK.out.chk0 1 (.inr ⟨HN.out, rfl⟩) _ S1.out.bel).mono ?_
  rintro e w2 ⟨rfl, b1⟩
  have S2 := Lib.hid (S1.out.below b1)
  clear b1 x0 x1 x2 x3 x4
  go_wp2_with fail
  refine bodyPost_ret (results_tmp2 rfl _ _ _) rfl ?_
  exact ⟨rfl, S2.out.bel⟩
 ·have HO := Lib.hid ho
  have HB := Lib.hid hb
  clear ho hb
  go_wp2_with fail
  refine (C2.out HK.out.chk0 0 (.inl ⟨HO.out, rfl⟩) _ S1.out.bel).mono ?_
  rintro e w2 ⟨rfl, b1⟩
  have S2 := Lib.hid (S1.out.below b1)
  clear b1 x0 x1 x2 x3 x4
  have x1 := S2.out.b0
  have x2 := S2.out.b1
  have x3 := S2.out.b2
  have x4 := S2.out.b3
  have y0 := S2.out.a0
  have y1 := S2.out.a1
  obtain ⟨q, hq⟩ : ∃ q, (allIn t.river s.river && allIn t.boards s.boards) = q := ⟨_, rfl⟩
  rw [hq] at C3 HB
  obtain rfl := HB.out
  clear hq
  go_wp2_with fail
  refine (C3.out HK.out.ok.1 HK.out.ok.2 HO.out _ S2.out.bel).mono ?_
  rintro e w3 ⟨rfl, b1⟩
  have S3 := Lib.hid (S2.out.below b1)
  clear b1 x1 x2 x3 x4 y0 y1
  go_wp2_with fail
  refine bodyPost_ret (results_tmp2 rfl _ _ _) rfl ?_
  exact ⟨rfl, S3.out.bel⟩

set_option maxHeartbeats 8000000 in
set_option maxRecDepth 1000000 in
theorem rFits_any (v cv wv : Value) (ws : Wk) (s : Ca) (t : Wa) (b : Bool) (d : Int) (w : World) (h : RK w.heap.size v ws w) (hq : total ws ≤ 100000) (hs : RCa w.heap.size cv s w) (ht : RWa w.heap.size wv t w) (hd : FitR ws s t b d) :
  Calls Try.prog 61 #[.agg #[v], cv, wv] w fun e w' => e = .returned (.tuple #[.bool b, .int .i64 d]) ∧ Below w.heap.size w w' := by
 obtain ⟨A, c, rfl, -⟩ := (show ∃ A c, v = .slice A ws.length c ∧ True by obtain ⟨A, c, e, _⟩ := h; exact ⟨A, c, e, trivial⟩)
 obtain ⟨A1, c1, A2, c2, rfl⟩ := hs.form
 obtain ⟨B1, d1, B2, d2, B3, d3, B4, d4, rfl⟩ := ht.form
 have C1 := Lib.hid fun (d : Int) (hc : CasIs ws s d) W (hb : Below w.heap.size w W) => rCheckCase_any (.slice A ws.length c) _ ws s d W (h.up hb.size hb) (by omega) (hs.up hb.size hb) hc
 have C2 := Lib.hid fun (hk : CheckIs ws 0) (d : Int) (hd : (WaOk ws t ∧ d = 0) ∨ (¬ WaOk ws t ∧ d = 1)) W (hb : Below w.heap.size w W) => rwater_any A c _ ws t d W (h.up hb.size hb) (ht.up hb.size hb) hk.ok hd
 have C3 := Lib.hid fun (hw : WOk ws) (hc : CaOk ws s) (ho : WaOk ws t) W (hb : Below w.heap.size w W) => rfits_any (.slice A1 s.river.length c1) (.slice A2 s.boards.length c2) (.slice B1 t.river.length d1) (.slice B2 t.boards.length d2) (.slice B3 t.leaks.length d3) (.slice B4 t.losses.length d4) t.river t.boards s.river s.boards W (ht.parts.1.up hb.size hb) (ht.parts.2.1.up hb.size hb) (hs.parts.1.up hb.size hb) (hs.parts.2.up hb.size hb) (by have := ho.ca hc; omega) (by have := ho.ca hc; omega) (by have := hc.b100 hw; omega) (by have := hc.b100 hw; omega)
 have S0 := Lib.hid (WCA.new w (.slice A ws.length c) (.slice A1 s.river.length c1) (.slice A2 s.boards.length c2) (.slice B1 t.river.length d1) (.slice B2 t.boards.length d2) (.slice B3 t.leaks.length d3) (.slice B4 t.losses.length d4))
 have HD := Lib.hid hd
 clear h hs ht hd
 go_enter Try.func61, Try.ntmps61
 go_wp2_with fail
 rcases HD.out with ⟨hc, hd0, rfl⟩ | ⟨hc, hn, rfl, rfl⟩ | ⟨hc, ho, rfl, hb⟩
 ·have hdb : (d != 0) = true := by rw [bne_iff_ne]; exact hd0
  refine (C1.out d hc _ S0.out.bel).mono ?_
  rintro e w1 ⟨rfl, b1⟩
  have S1 := Lib.hid (S0.out.below b1)
  clear b1 hc
  go_wp2_with fail
  refine bodyPost_ret (results_tmp2 rfl _ _ _) rfl ?_
  exact ⟨rfl, S1.out.bel⟩
 all_goals
  refine (C1.out 0 hc _ S0.out.bel).mono ?_
  rintro e w1 ⟨rfl, b1⟩
  have S1 := Lib.hid (S0.out.below b1)
  have x0 := S1.out.v0
  have x1 := S1.out.b0
  have x2 := S1.out.b1
  have x3 := S1.out.b2
  have x4 := S1.out.b3
  have HK := Lib.hid hc
  clear b1 hc
 ·have HN := Lib.hid hn
  clear hn
  go_wp2_with fail
  refine (C2.out HK.out.chk0 1 (.inr ⟨HN.out, rfl⟩) _ S1.out.bel).mono ?_
  rintro e w2 ⟨rfl, b1⟩
  have S2 := Lib.hid (S1.out.below b1)
  clear b1 x0 x1 x2 x3 x4
  go_wp2_with fail
  refine bodyPost_ret (results_tmp2 rfl _ _ _) rfl ?_
  exact ⟨rfl, S2.out.bel⟩
 ·have HO := Lib.hid ho
  have HB := Lib.hid hb
  clear ho hb
  go_wp2_with fail
  refine (C2.out HK.out.chk0 0 (.inl ⟨HO.out, rfl⟩) _ S1.out.bel).mono ?_
  rintro e w2 ⟨rfl, b1⟩
  have S2 := Lib.hid (S1.out.below b1)
  clear b1 x0 x1 x2 x3 x4
  have x1 := S2.out.b0
  have x2 := S2.out.b1
  have x3 := S2.out.b2
  have x4 := S2.out.b3
  have y0 := S2.out.a0
  have y1 := S2.out.a1
  obtain ⟨q, hq⟩ : ∃ q, (allIn t.river s.river && allIn t.boards s.boards) = q := ⟨_, rfl⟩
  rw [hq] at C3 HB
  obtain rfl := HB.out
  clear hq
  go_wp2_with fail
  refine (C3.out HK.out.ok.1 HK.out.ok.2 HO.out _ S2.out.bel).mono ?_
  rintro e w3 ⟨rfl, b1⟩
  have S3 := Lib.hid (S2.out.below b1)
  clear b1 x1 x2 x3 x4 y0 y1
  go_wp2_with fail
  refine bodyPost_ret (results_tmp2 rfl _ _ _) rfl ?_
  exact ⟨rfl, S3.out.bel⟩

def CasedPost (s : Ca) (w : World) (e : Ending) (w' : World) : Prop := ∃ b, e = .returned (.bool b) ∧ (b = true → s.river.length ≤ 100 ∧ s.boards.length ≤ 100) ∧ Below w.heap.size w w'
set_option maxHeartbeats 8000000 in
set_option maxRecDepth 1000000 in
theorem casedL_any (v : Value) (s : Ca) (w : World) (h : RCa w.heap.size v s w) : Calls Try.prog 24 #[v] w (CasedPost s w) := by
 obtain ⟨A1, c1, A2, c2, rfl⟩ := h.form
 clear h
 have hs : (100 : Int) < (s.river.length : Int) ∨ ((s.river.length : Int) ≤ 100 ∧ (100 : Int) < (s.boards.length : Int)) ∨ ((s.river.length : Int) ≤ 100 ∧ (s.boards.length : Int) ≤ 100) := by omega
 have HB : Hid (Below w.heap.size w (w.alloc (.cells #[.slice A1 s.river.length c1, .slice A2 s.boards.length c2] 46))) := Lib.hid ((Below.refl _ _).alloc (Nat.le_refl _) _)
 rcases hs with h1 | ⟨h1, h2⟩ | ⟨h1, h2⟩
 all_goals
  go_enter Try.func24, Try.ntmps24
  go_wp2_with fail
  go_ret
  first
   | exact ⟨false, rfl, (fun h => by cases h), HB.out⟩
   | exact ⟨true, rfl, (fun _ => by omega), HB.out⟩
   | exact ⟨_, rfl, (fun h => by have := of_decide_eq_true h; omega), HB.out⟩
end Go.Proofs.Ytkoacclbempmdaa

/- A list and an error in a block of their own. -/
namespace Go.Proofs.Ytkoacclbempmdaa
open Go.RowKit

/-- A list and an error in a block of their own. -/
structure In2 (g : Nat) (u : Value) (d : Int) (W : World) : Prop where
 l : W.cell? ⟨g, 0, none⟩ = some u
 e : W.cell? ⟨g, 1, none⟩ = some (.int .i64 d)
theorem In2.below {g : Nat} {u : Value} {d : Int} {W W' : World} (h : In2 g u d W) (hb : Below W.heap.size W W') : In2 g u d W' :=
 have hl := World.block_lt_of_cell? _ _ h.l
 ⟨(hb.cell (p := ⟨g, 0, none⟩) hl).trans h.l, (hb.cell (p := ⟨g, 1, none⟩) hl).trans h.e⟩
theorem In2.new (u : Value) (d : Int) (w : World) : In2 w.heap.size u d (w.alloc (.cells #[u, .int .i64 d] 86)) := ⟨by simp [go_sem], by simp [go_sem]⟩
theorem own_list {base : Nat} {u : Value} {l : List Int} {W : World} (h : OwnG encI 1 3 base u l W) : ∃ A c, u = .slice A l.length c := by obtain ⟨A, c, e, -⟩ := h.form; exact ⟨A, c, e⟩

end Go.Proofs.Ytkoacclbempmdaa

/- The law CarrierRests, by its walk. -/
namespace Go.Proofs.Ytkoacclbempmdaa
open Go.RowKit

set_option maxHeartbeats 16000000 in
set_option maxRecDepth 1000000 in
theorem rests_law (A : Option Addr) (c : Nat) (cv : Value) (ws : Wk) (s : Ca) (id : Int) (w : World) (h : RK w.heap.size (.slice A ws.length c) ws w) (hs : RCa w.heap.size cv s w) (hid : (Lit.int .i64 id).wf = true) :
  Calls Try.prog 14 #[.agg #[.slice A ws.length c], cv, .int .i64 id] w fun e w' => e = .returned (.bool true) ∧ Below w.heap.size w w' := by
 obtain ⟨A1, c1, A2, c2, rfl⟩ := hs.form
 have H := Lib.hid h
 have HS := Lib.hid hs
 have HI := Lib.hid hid
 have S := Lib.hid (CW.new w (.slice A ws.length c) (.slice A1 s.river.length c1) (.slice A2 s.boards.length c2))
 clear h hs hid
 go_enter Try.func14, Try.ntmps14
 have xx0 := S.out.wk
 go_wp2_with fail
 refine (few_any A ws.length c ws _ (H.out.up S.out.bel.size S.out.bel)).mono ?_
 rintro e wc1 ⟨b, rfl, hfew, bb⟩
 replace S := Lib.hid (S.out.below bb)
 clear bb xx0
 cases b
 ·clear hfew
  go_wp2_with fail
  refine (sanity_any _).mono ?_
  rintro e wz ⟨rfl, bz⟩
  have SZ := Lib.hid (S.out.below bz)
  clear bz
  go_wp2_with fail
  go_ret
  exact ⟨rfl, SZ.out.bel⟩
 have HT : Hid (total ws ≤ 90 ∧ ws.length ≤ 30) := Lib.hid (by have := hfew (by trivial); have h1 := this.1; have h2 := this.2.1; omega)
 clear hfew
 have xx0 := S.out.ca
 have xx1 := S.out.cb
 go_wp2_with fail
 refine (casedL_any _ s _ (HS.out.up S.out.bel.size S.out.bel)).mono ?_
 rintro e wc2 ⟨b, rfl, -, bb⟩
 replace S := Lib.hid (S.out.below bb)
 clear bb xx0 xx1
 cases b
 ·skip
  go_wp2_with fail
  refine (sanity_any _).mono ?_
  rintro e wz ⟨rfl, bz⟩
  have SZ := Lib.hid (S.out.below bz)
  clear bz
  go_wp2_with fail
  go_ret
  exact ⟨rfl, SZ.out.bel⟩
 obtain ⟨i, d, hd⟩ := CasAt.exists_ ws s id
 have HD := Lib.hid hd
 obtain ⟨L, hL⟩ : ∃ L, okL d (restsL ws s id i.toNat) = L := ⟨_, rfl⟩
 have HLB : Hid (L.length ≤ 90) := Lib.hid (by
  rw [← hL]; unfold okL; split
  ·exact Nat.le_trans (idsQ_len _ _) (by rw [allP_len]; exact HT.out.1)
  ·simp)
 have HT1 : Hid (total ws ≤ 100000) := Lib.hid (by have := HT.out; omega)
 have EA_ : Hid (∀ W, Below w.heap.size w W → Calls Try.prog 69 #[.agg #[.slice A ws.length c], .agg #[.slice A1 s.river.length c1, .slice A2 s.boards.length c2], .int .i64 id] W fun e w' => ∃ P k, e = .returned (.tuple #[.slice P L.length k, .int .i64 d]) ∧ OwnG encI 1 3 W.heap.size (.slice P L.length k) L w' ∧ Below W.heap.size W w') := Lib.hid fun W hb => by
  refine (Rests_any _ _ ws s id i d W (H.out.up hb.size hb) HT1.out (HS.out.up hb.size hb) hd HI.out).mono ?_
  rintro e w' ⟨v, rfl, o1, bb⟩
  rw [hL] at o1
  obtain ⟨P, k, rfl, -⟩ := o1.form
  exact ⟨P, k, rfl, o1, bb⟩
 have EB_ : Hid (∀ W, Below w.heap.size w W → Calls Try.prog 70 #[.agg #[.slice A ws.length c], .agg #[.slice A1 s.river.length c1, .slice A2 s.boards.length c2], .int .i64 id] W fun e w' => ∃ P k, e = .returned (.agg #[.slice P L.length k, .int .i64 d]) ∧ OwnG encI 1 3 W.heap.size (.slice P L.length k) L w' ∧ Below W.heap.size W w') := Lib.hid fun W hb => by
  refine (rRests_any _ _ ws s id i d W (H.out.up hb.size hb) HT1.out (HS.out.up hb.size hb) hd).mono ?_
  rintro e w' ⟨v, rfl, o1, bb⟩
  rw [hL] at o1
  obtain ⟨P, k, rfl, -⟩ := o1.form
  exact ⟨P, k, rfl, o1, bb⟩
 clear hd hL
 have xx0 := S.out.wk
 have xx1 := S.out.ca
 have xx2 := S.out.cb
 go_wp2_with fail
 refine (EA_.out _ S.out.bel).mono ?_
 rintro e wc3 ⟨P1, k1, rfl, ox, bb⟩
 replace S := Lib.hid (S.out.below bb)
 have OX := Lib.hid ox
 clear bb xx0 xx1 xx2 ox
 have xx0 := S.out.wk
 have xx1 := S.out.ca
 have xx2 := S.out.cb
 go_wp2_with fail
 refine (EB_.out _ S.out.bel).mono ?_
 rintro e wc4 ⟨P2, k2, rfl, ox, bb⟩
 replace S := Lib.hid (S.out.below bb)
 replace OX := Lib.hid (OX.out.below bb)
 have OY := Lib.hid ox
 clear bb xx0 xx1 xx2 ox
 obtain ⟨wc5, hwc5⟩ : ∃ W, wc4.alloc (.cells #[.slice P2 L.length k2, .int .i64 d] 86) = W := ⟨_, rfl⟩
 have bb : Below wc4.heap.size wc4 wc5 := by rw [← hwc5]; exact (Below.refl _ _).alloc (Nat.le_refl _) _
 replace S := Lib.hid (S.out.below bb)
 replace OX := Lib.hid (OX.out.below bb)
 replace OY := Lib.hid (OY.out.below bb)
 have IN : Hid (In2 wc4.heap.size (.slice P2 L.length k2) d wc5) := Lib.hid (by rw [← hwc5]; exact ⟨by simp [go_sem], by simp [go_sem]⟩)
 have Hwc5 := Lib.hid hwc5
 clear bb hwc5
 go_upto_region 5 with fail
 rw [Hwc5.out]
 go_wp2_with fail
 refine (sanity_any _).mono ?_
 rintro e wc6 ⟨rfl, bb⟩
 replace S := Lib.hid (S.out.below bb)
 replace OX := Lib.hid (OX.out.below bb)
 replace OY := Lib.hid (OY.out.below bb)
 replace IN := Lib.hid (IN.out.below bb)
 clear bb
 have y0 := IN.out.l
 have y1 := IN.out.e
 go_wp2_with fail
 refine (sameInts_any _ _ L _ (OX.out.rr EI (by have := HLB.out; show L.length ≤ 1000000000000000; omega)) (OY.out.rr EI (by have := HLB.out; show L.length ≤ 1000000000000000; omega)) (by have := HLB.out; omega)).mono ?_
 rintro e wc7 ⟨rfl, bb⟩
 replace S := Lib.hid (S.out.below bb)
 replace OX := Lib.hid (OX.out.below bb)
 replace OY := Lib.hid (OY.out.below bb)
 replace IN := Lib.hid (IN.out.below bb)
 clear bb y0 y1
 have y0 := IN.out.l
 have y1 := IN.out.e
 go_wp2_with fail
 go_ret
 exact ⟨rfl, S.out.bel⟩
end Go.Proofs.Ytkoacclbempmdaa

/- How a case that came in is opened. -/
namespace Go.Proofs.Ytkoacclbempmdaa
open Go.ChangeShapes Go.WideShapes Go.ChangeAt Go.RowKit Go.Joins
section
variable {H : Type} {enc : TypeId × Value → H} {W : World} {base : Nat} {sp : Nat → Bool}
set_option maxRecDepth 100000 in
/-- Spans. -/
theorem spans_open {fuel : Nat} {v : Value} {y : DataW H × List MemPlace} (h : DataW.trod enc Try.prog W base sp true fuel 44 [v] = some y) (hw : WB 44 y.1) : ∃ l : List (Int × Int), RR enc2 W.heap.size v l W := by
 obtain ⟨A, c, l, e, hf, hr⟩ := row_open (α := Int × Int) Try.underlying44 qcellsS (by decide) pbS (fun n b o => W.cell? ⟨b, o, none⟩ = some (.int .i64 n.1) ∧ W.cell? ⟨b, o + 1, none⟩ = some (.int .i64 n.2)) (fun fuel a x _ hx => by
  obtain ⟨cs, hl, hc, h2⟩ := cells_of hx
  match cs, hl with
  | [u0, u1], _ =>
   obtain ⟨p, f, rfl, rfl⟩ := span_of h2
   have h0 := hc 0 (by decide)
   have h1 := hc 1 (by decide)
   rw [Addr.add_zero'] at h0
   refine ⟨(p, f), ⟨_, h0.trans rfl⟩, fun hs => ?_⟩
   rw [add_plain hs] at h1
   obtain ⟨b, o, s⟩ := a
   simp only at hs
   subst hs
   exact ⟨h0.trans rfl, h1.trans rfl⟩) h hw
 refine ⟨l, A, c, e, hf, fun hp => ?_⟩
 obtain ⟨b, o, e1, e2, hh⟩ := hr hp
 refine ⟨b, o, e1, e2, fun j u hj => ?_⟩
 obtain ⟨k, i, x, hk, hi, rfl, hu⟩ := E2.inv hj
 obtain ⟨g1, g2⟩ := hh k x hk
 match i, hi with
 | 0, _ => cases hu; exact g1
 | 1, _ => cases hu; exact g2
set_option maxRecDepth 100000 in
/-- A case that came in. -/
theorem case_open {b0 : Nat} {v : Value} {d : DataW H} {p : List MemPlace} (hv : Value.okWide Try.prog W .any b0 46 v) (h : DataW.Trod enc Try.prog W base sp true 46 v d p) (hw : WB 46 d) : ∃ s : Ca, RCa W.heap.size v s W := by
 obtain ⟨v0, v1, y0, y1, m, rfl, rfl, _, h0, h1⟩ := open_agg2 Try.underlying46 (by kernel_rfl) qcellsK hv h
 have hw' := hw.agg Try.underlying46
 obtain ⟨l0, r0⟩ := spans_open h0 (hw' 0 _ y0.1 rfl rfl)
 obtain ⟨l1, r1⟩ := spans_open h1 (hw' 1 _ y1.1 rfl rfl)
 exact ⟨⟨l0, l1⟩, _, _, rfl, r0, r1⟩
end
end Go.Proofs.Ytkoacclbempmdaa

/- The law CarrierRests holds for every input: the row. -/
namespace Go.Proofs.Ytkoacclbempmdaa
open Go.ChangeShapes Go.WideShapes Go.ChangeAt Go.RowKit Go.Joins

namespace carrierRests
def wargs : Array Value := #[.agg #[.slice none 0 0], .agg #[.slice none 0 0, .slice none 0 0], .int .i64 0]
theorem laid_met (os : Os) : laidMet Try.prog Rows.carrierRestsRow.laid ((World.holding Try.prog os ⟨#[], #[], []⟩).forCall (fun _ _ => 0) ⟨#[], wargs, []⟩).memory :=
 laidMet_of_run' 8 (by kernel_rfl) (by kernel_rfl)
theorem reads (os : Os) {H : Type} (enc : TypeId × Value → H) : ∃ places, DataW.whole enc Try.prog ((World.holding Try.prog os ⟨#[], #[], []⟩).forCall (fun _ _ => 0) ⟨#[], wargs, []⟩).memory Try.f14.params.toList Rows.carrierRestsSpec.vars false wargs.toList 8 = some ([.agg [.nil], .agg [.nil, .nil], .lit (.int .i64 0)], [], places) :=
 ⟨[], by kernel_rfl⟩

set_option maxHeartbeats 1000000 in
set_option maxRecDepth 100000 in
/-- What the walk gives, for every argument. -/
theorem contract (H : Type) (enc : TypeId × Value → H) (W : World) (base : Nat) (args : Array Value) (ds gs : List (DataW H)) (before : List MemPlace)
  (hval : ∀ (j : Nat) t v, Try.f14.params[j]? = some t → args[j]? = some v → Value.okWide Try.prog W .any base t v)
  (hW : DataW.Whole enc Try.prog Try.f14.params.toList Rows.carrierRestsSpec.vars false W args.toList ds gs before)
  (hwt : (DataW.weightsEach Try.prog (Try.f14.params.toList ++ DataSpec.varTypes Try.prog (OpenSpec.ofChange Rows.carrierRestsSpec).bare.plain) (ds ++ gs)).all (· ≤ reachBytes) = true) :
  Calls Try.prog 14 args W fun e W' => ∃ v, e = .returned v ∧ Rows.carrierRestsSpec.post enc Try.prog Try.f14 false true false false W args v W' := by
 have hW' := hW
 obtain ⟨p, q, hA0, hV, rfl, hfz, hnd⟩ := hW
 have hA : DataW.TrodAll enc Try.prog W 0 (fun _ => true) true Try.f14.params.toList args.toList ds p := hA0
 have hAk := hA
 have hsize : ∀ t ∈ Try.f14.params.toList, t < Try.prog.types.size := by rw [Try.params14]; decide +kernel
 have hwt' := hwt
 rw [Try.params14] at hA hval hwt'
 obtain ⟨v0, vs0, d0, ds0, p0, q0, hargs, rfl, rfl, h0, r0⟩ := trodAll_cons hA
 obtain ⟨v1, vs1, d1, ds1, p1, q1, rfl, rfl, rfl, h1, r1⟩ := trodAll_cons r0
 obtain ⟨v2, vs2, d2, ds2, p2, q2, rfl, rfl, rfl, h2, r2⟩ := trodAll_cons r1
 obtain ⟨rfl, rfl, rfl⟩ := trodAll_nil r2
 obtain rfl : args = #[v0, v1, v2] := by cases args; simp_all
 obtain ⟨rfl, rfl⟩ := trodVars_none hV
 obtain ⟨A, c, ws, rfl, hk⟩ := works_open (hval 0 24 v0 rfl rfl) h0 (WB.each _ _ hwt' 0 _ _ rfl rfl)
 obtain ⟨s1, hs1⟩ := case_open (hval 1 46 v1 rfl rfl) h1 (WB.each _ _ hwt' 1 _ _ rfl rfl)
 obtain ⟨n2, rfl, rfl, rfl, wn2⟩ := open_int Try.underlying3 (hval 2 3 v2 rfl rfl) h2
 have hcall := rests_law A c v1 ws s1 n2 W hk hs1 wn2
 refine hcall.mono fun e W' ⟨he, hb⟩ => ?_
 subst he
 refine ⟨_, rfl, _, _, _, [], _, [], hW', ?_, args_again hb hsize hAk, ?_, hb.frame _, fun h => by cases h⟩
 ·exact trodAll_cons_mk (shut_bool Try.underlying4 _) trodAll_mk0
 ·rfl

set_option maxRecDepth 100000 in
theorem lifted (os : Os) (started : os.Started) (H : Type) (enc : TypeId × Value → H) (F : Stop.Interp) :
  ReturnsInHanded {} Try.checked os 14 .any ((OpenSpec.ofChange Rows.carrierRestsSpec).preRow enc Try.prog Try.f14 Rows.carrierRestsRow.domain false Rows.carrierRestsRow.laid) (((OpenSpec.ofChange Rows.carrierRestsSpec).at F).post enc Try.prog Try.f14 false true false false) := by
 obtain ⟨places, hx⟩ := reads os enc
 refine returnsInHanded_of_row (C := Try.checked) (s := OpenSpec.ofChange Rows.carrierRestsSpec) own started (by kernel_rfl) Try.func14
  (witness_row_at (enc := enc) (C := Try.checked) false (World.holding Try.prog os ⟨#[], #[], []⟩) wargs rfl (by kernel_rfl) (by kernel_rfl) (by kernel_rfl)
   (OpenSpec.preRow_of_cond 8 hx (by kernel_rfl) (fun k hk => by cases hk) (by kernel_rfl) (laid_met os))) ?_
 intro W base args ds gs before hval hW _ _ hwt hL _ _
 exact contract H enc W base args ds gs before hval hW hwt

theorem said : Rows.CarrierRestsSaid :=
 OpenClaim.holds_of_cond 14 Try.f14 rfl rfl rfl rfl rfl rfl rfl ⟨rfl, rfl, rfl, rfl, rfl⟩ rfl rfl rfl rfl rfl (by kernel_rfl) Try.func14 (by kernel_rfl)
  (of_decide_eq_true (by kernel_rfl)) (by unfold Func.isWrapper; first | (rw [if_pos (by decide +kernel)]; kernel_rfl) | (rw [if_neg (by decide +kernel)]; exact ⟨rfl, rfl⟩))
  (fun os started H enc _ F => by rw [OpenClaim.pre_eq_preRow]; exact lifted os started H enc F)
end carrierRests
theorem carrierRests_holds : Rows.CarrierRestsSaid := carrierRests.said
end Go.Proofs.Ytkoacclbempmdaa
