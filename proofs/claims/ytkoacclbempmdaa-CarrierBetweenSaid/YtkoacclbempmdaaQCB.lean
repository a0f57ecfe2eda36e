/- Contracts of the laws' place and up. -/
import Derived.Test.YtkoacclbempmdaaGZL
import Derived.Test.YtkoacclbempmdaaQCA
namespace Go.Proofs.Ytkoacclbempmdaa
open Go.RowKit

/-- None of the first outlets has an ID. -/
def NoId (ws : Wk) (id : Int) (n : Nat) : Prop := ∀ (j : Nat) (o : Ou), j < n → (outs ws)[j]? = some o → o.id ≠ id
theorem NoId.succ {ws : Wk} {id : Int} {n : Nat} (h : NoId ws id n) {o : Ou} (ho : (outs ws)[n]? = some o) (hi : o.id ≠ id) : NoId ws id (n + 1) := fun j o' hj ho' => by
 rcases Nat.lt_or_ge j n with h' | h'
 ·exact h j o' h' ho'
 ·obtain rfl : j = n := by omega
  rw [ho] at ho'
  cases ho'
  exact hi
set_option maxHeartbeats 8000000 in
set_option maxRecDepth 1000000 in
theorem place_any (A : Option Addr) (c : Nat) (ws : Wk) (id r : Int) (w : World) (h : RK w.heap.size (.slice A ws.length c) ws w) (ht : total ws ≤ 100000) (hl : ws.length ≤ 100000) (hr : FstIs (fun o : Ou => o.id) (outs ws) id r) :
  Calls Try.prog 26 #[.agg #[.slice A ws.length c], .int .i64 id] w fun e w' => e = .returned (.int .i64 r) ∧ Below w.heap.size w w' := by
 have H := Lib.hid h
 have HR := Lib.hid hr
 have S0 := Lib.hid (Wd.new (w := w) (v := .slice A ws.length c) 24)
 clear h hr
 go_enter Try.func26, Try.ntmps26
 go_wp2_with fail
 go_loopw [5, 6] (fun n i wr => ∃ k : Nat, i = .int .i64 k ∧ k ≤ ws.length ∧ n = .int .i64 (pre ws k) ∧ NoId ws id (pre ws k) ∧ Wd w (.slice A ws.length c) wr) (fun _ i _ => ws.length - (intOf i).toNat)
 case atStart => exact ⟨0, rfl, by omega, by rw [pre_zero]; rfl, fun j o hj => by rw [pre_zero] at hj; omega, S0.out⟩
 case round =>
  obtain ⟨k, rfl, hk, rfl, hno, hS⟩ := hrel
  have S := Lib.hid hS
  have t0 := hS.c
  have HNO := Lib.hid hno
  clear hS hno S0
  by_cases hkl : k < ws.length
  ·have hk0 : (k : Int) < (ws.length : Int) := by omega
   obtain ⟨os, hos⟩ : ∃ os, ws[k]? = some os := ⟨_, List.getElem?_eq_getElem hkl⟩
   have HOS := Lib.hid hos
   clear hos
   go_wp2_with fail
   go_loopw [5, 7] (fun n i wy => ∃ j : Nat, i = .int .i64 j ∧ j ≤ os.length ∧ n = .int .i64 ((pre ws k + j : Nat) : Int) ∧ NoId ws id (pre ws k + j) ∧ Wd w (.slice A ws.length c) wy) (fun _ i _ => os.length - (intOf i).toNat)
   case atStart => exact ⟨0, rfl, by omega, rfl, HNO.out, S.out⟩
   case round =>
    obtain ⟨j, rfl, hj, rfl, hno, hS⟩ := hrel
    have S := Lib.hid hS
    have t0 := hS.c
    have KR := Lib.hid (H.out.up hS.siz hS.bel)
    have HNO := Lib.hid hno
    clear hS hno
    obtain ⟨b, o, hA, hbB, u, hu, A1_, c1_, hu2, hou⟩ := rk_at KR.out HOS.out
    subst hA hu2
    by_cases hjl : j < os.length
    ·have hj0 : (j : Int) < (os.length : Int) := by omega
     obtain ⟨p, hp⟩ : ∃ p, os[j]? = some p := ⟨_, List.getElem?_eq_getElem hjl⟩
     obtain ⟨b1, o1, hA1, -, hc1⟩ := ro_at hou hp
     subst hA1
     have q1 := hc1.id
     have HO := Lib.hid (outs_get (allP_get HOS.out hp)).1
     have hnl := pre_lt HOS.out hjl
     have hjm : ((pre ws k + j : Nat) : Int) ≤ 100000 := by omega
     have hjn : (j : Int) ≤ 100000 := by omega
     clear hc1 hp hnl
     by_cases hi : p.id = id
     ·have HE := Lib.hid (HR.out.at_ HNO.out HO.out hi)
      obtain ⟨n, hn⟩ : ∃ n, pre ws k + j = n := ⟨_, rfl⟩
      rw [hn] at HE hjm ⊢
      clear hn
      go_wp2_with fail
      go_ret
      exact ⟨by have := HE.out; subst this; first | rfl | trivial, S.out.bel⟩
     ·have HN2 := Lib.hid (HNO.out.succ HO.out hi)
      obtain ⟨n, hn⟩ : ∃ n, pre ws k + j = n := ⟨_, rfl⟩
      have HN := Lib.hid hn
      rw [hn] at HN2 hjm ⊢
      clear hn
      go_wp2_with fail
      go_roundw
      case rel => exact ⟨j + 1, by go_num, by omega, by rw [← Nat.add_assoc, HN.out]; go_num, by rw [← Nat.add_assoc, HN.out]; exact HN2.out, S.out⟩
      case measure => show os.length - ((j : Int) + 1).toNat < os.length - (j : Int).toNat; omega
    ·have hj0 : (os.length : Int) ≤ (j : Int) := by omega
     obtain rfl : j = os.length := by omega
     have hps := pre_succ HOS.out
     rw [← hps] at HNO ⊢
     clear hps hou
     go_wp2_with fail
     go_roundw
     case rel => exact ⟨k + 1, by go_num, by omega, rfl, HNO.out, S.out⟩
     case measure => show ws.length - ((k : Int) + 1).toNat < ws.length - (k : Int).toNat; omega
  ·have hk0 : (ws.length : Int) ≤ (k : Int) := by omega
   obtain rfl : k = ws.length := by omega
   have HE : Hid (r = -1) := Lib.hid (HR.out.none_ (fun j o ho => HNO.out j o (by have := (List.getElem?_eq_some_iff.1 ho).1; rwa [outs_len] at this) ho))
   go_wp2_with fail
   go_ret
   exact ⟨by have := HE.out; subst this; first | rfl | trivial, S.out.bel⟩

/-- Whether all numbers of a second list, times signs, are at least those of a first one. -/
def upB (g a b : List Int) : Bool := decide (∀ i, i < g.length → g.getD i 0 * a.getD i 0 ≤ g.getD i 0 * b.getD i 0)
set_option maxHeartbeats 8000000 in
set_option maxRecDepth 1000000 in
theorem up_any (gv av bv : Value) (g a b : List Int) (w : World) (hg : RR encI w.heap.size gv g w) (ha : RR encI w.heap.size av a w) (hb : RR encI w.heap.size bv b w) (hl : g.length ≤ 1000000) (h1 : a.length = g.length) (h2 : b.length = g.length)
  (bg : ∀ x ∈ g, -1 ≤ x ∧ x ≤ 1) (ba : ∀ x ∈ a, -1000000000 ≤ x ∧ x ≤ 1000000000) (bb : ∀ x ∈ b, -1000000000 ≤ x ∧ x ≤ 1000000000) :
  Calls Try.prog 34 #[gv, av, bv] w fun e w' => e = .returned (.bool (upB g a b)) ∧ Below w.heap.size w w' := by
 obtain ⟨A0, c0, rfl⟩ := hg.slice
 obtain ⟨A1, c1, rfl⟩ := ha.slice
 obtain ⟨A2, c2, rfl⟩ := hb.slice
 have HG := Lib.hid hg
 have HA := Lib.hid ha
 have HB := Lib.hid hb
 have BG := Lib.hid bg
 have BA := Lib.hid ba
 have BB := Lib.hid bb
 have hll : (g.length : Int) ≤ 1000000 := by omega
 obtain ⟨na, hna⟩ : ∃ n, a.length = n := ⟨_, rfl⟩
 obtain ⟨nb, hnb⟩ : ∃ n, b.length = n := ⟨_, rfl⟩
 have LA := Lib.hid (hna.symm.trans h1)
 have LB := Lib.hid (hnb.symm.trans h2)
 have NA := Lib.hid hna
 have NB := Lib.hid hnb
 rw [hna, hnb]
 obtain ⟨R, hR⟩ : ∃ R, upB g a b = R := ⟨_, rfl⟩
 have HRR := Lib.hid hR
 rw [hR]
 clear hg ha hb bg ba bb h1 h2 hna hnb hR
 go_enter Try.func34, Try.ntmps34
 go_wp2_with fail
 go_loopw [7] (fun k wr => ∃ i : Nat, k = .int .i64 i ∧ i ≤ g.length ∧ (∀ j, j < i → g.getD j 0 * a.getD j 0 ≤ g.getD j 0 * b.getD j 0) ∧ Below w.heap.size w wr) (fun k _ => g.length - (intOf k).toNat)
 case atStart => exact ⟨0, rfl, by omega, fun j hj => by omega, Below.refl _ _⟩
 case round =>
  obtain ⟨i, rfl, hi, hok, hb⟩ := hrel
  have HBL := Lib.hid hb
  have HOK := Lib.hid hok
  clear hok
  by_cases hil : i < g.length
  ·have hi0 : (i : Int) < (g.length : Int) := by omega
   have hia : (i : Int) < (na : Int) := by have := LA.out; omega
   have hib : (i : Int) < (nb : Int) := by have := LB.out; omega
   obtain ⟨x, hx⟩ : ∃ x, g[i]? = some x := ⟨_, List.getElem?_eq_getElem hil⟩
   obtain ⟨y, hy⟩ : ∃ y, a[i]? = some y := ⟨_, List.getElem?_eq_getElem (by rw [NA.out]; omega)⟩
   obtain ⟨z, hz⟩ : ∃ z, b[i]? = some z := ⟨_, List.getElem?_eq_getElem (by rw [NB.out]; omega)⟩
   obtain ⟨b0, o0, rfl, -, q0⟩ := (HG.out.up hb.size hb).int hx
   obtain ⟨b1, o1, rfl, -, q1⟩ := (HA.out.up hb.size hb).int hy
   obtain ⟨b2, o2, rfl, -, q2⟩ := (HB.out.up hb.size hb).int hz
   have hx0 := BG.out x (List.mem_of_getElem? hx)
   have hy0 := BA.out y (List.mem_of_getElem? hy)
   have hz0 := BB.out z (List.mem_of_getElem? hz)
   have hW1 : IntKind.i64.wrap (x * y) = x * y := IntWalk.i64_in _ (by
    rcases (by omega : x = -1 ∨ x = 0 ∨ x = 1) with rfl | rfl | rfl <;> omega)
   have hW2 : IntKind.i64.wrap (x * z) = x * z := IntWalk.i64_in _ (by
    rcases (by omega : x = -1 ∨ x = 0 ∨ x = 1) with rfl | rfl | rfl <;> omega)
   have HX : Hid (g.getD i 0 = x ∧ a.getD i 0 = y ∧ b.getD i 0 = z) := Lib.hid ⟨by rw [List.getD_eq_getElem?_getD, hx]; rfl, by rw [List.getD_eq_getElem?_getD, hy]; rfl, by rw [List.getD_eq_getElem?_getD, hz]; rfl⟩
   clear hx hy hz hb hx0 hy0 hz0
   obtain ⟨P1, hP1⟩ : ∃ P, x * y = P := ⟨_, rfl⟩
   obtain ⟨P2, hP2⟩ : ∃ P, x * z = P := ⟨_, rfl⟩
   have HP1 := Lib.hid hP1
   have HP2 := Lib.hid hP2
   rw [hP1] at hW1
   rw [hP2] at hW2
   by_cases hlt : P2 < P1
   ·have HF : Hid (R = false) := Lib.hid (by
     rw [← HRR.out]
     unfold upB
     rw [decide_eq_false_iff_not]
     intro hh
     have := hh i hil
     rw [HX.out.1, HX.out.2.1, HX.out.2.2, HP1.out, HP2.out] at this
     omega)
    go_wp2_with fail
    go_quiet (fail)
    go_wp2_with fail
    go_ret
    exact ⟨by have := HF.out; subst this; first | rfl | trivial, below_drewN HBL.out _⟩
   ·have HLE : Hid (g.getD i 0 * a.getD i 0 ≤ g.getD i 0 * b.getD i 0) := Lib.hid (by rw [HX.out.1, HX.out.2.1, HX.out.2.2, HP1.out, HP2.out]; omega)
    go_wp2_with fail
    go_quiet (fail)
    go_wp2_with fail
    go_roundw
    case rel => exact ⟨i + 1, by go_num, by omega, fun j hj => by
     rcases Nat.lt_or_ge j i with h | h
     ·exact HOK.out j h
     ·obtain rfl : j = i := by omega
      exact HLE.out, below_drewN HBL.out _⟩
    case measure => show g.length - ((i : Int) + 1).toNat < g.length - (i : Int).toNat; omega
  ·have hi0 : (g.length : Int) ≤ (i : Int) := by omega
   obtain rfl : i = g.length := by omega
   have HF : Hid (R = true) := Lib.hid (by
    rw [← HRR.out]
    unfold upB
    rw [decide_eq_true_iff]
    exact HOK.out)
   go_wp2_with fail
   go_ret
   exact ⟨by have := HF.out; subst this; first | rfl | trivial, hb⟩
end Go.Proofs.Ytkoacclbempmdaa

/- Contract of Signs. -/
namespace Go.Proofs.Ytkoacclbempmdaa
open Go.RowKit

def SignsR (ws : Wk) (id d : Int) (w : World) (e : Ending) (w' : World) : Prop := ∃ u1 u2 u3, e = .returned (.tuple #[u1, u2, u3, .int .i64 d]) ∧ OwnG encI 1 3 w.heap.size u1 (okL d (sigH ws id)) w' ∧ OwnG encI 1 3 w.heap.size u2 (okL d (sigO ws id)) w' ∧ OwnG encI 1 3 w.heap.size u3 (okL d (sigR ws id)) w' ∧ Below w.heap.size w w'
set_option maxHeartbeats 8000000 in
set_option maxRecDepth 1000000 in
theorem Signs_any (v : Value) (ws : Wk) (id i d : Int) (w : World) (h : RK w.heap.size v ws w) (ht : total ws ≤ 100000) (hk : KnownIs ws id i d) :
  Calls Try.prog 33 #[.agg #[v], .int .i64 id] w (SignsR ws id d w) := by
 obtain ⟨A, c, rfl, -⟩ := (show ∃ A c, v = .slice A ws.length c ∧ True by obtain ⟨A, c, e, _⟩ := h; exact ⟨A, c, e, trivial⟩)
 have C1 := Lib.hid fun W (S : Wd w (.slice A ws.length c) W) => checkOutlet_any (.slice A ws.length c) ws id i d W (h.up S.siz S.bel) ht hk
 have C2 := Lib.hid fun (hw : WOk ws) (hid : (Lit.int .i64 id).wf = true) W (S : Wd w (.slice A ws.length c) W) => signsOf_any A c ws id W (h.up S.siz S.bel) hw hid
 have S0 := Lib.hid (Wd.new (w := w) (v := .slice A ws.length c) 24)
 have HK := Lib.hid hk
 clear h hk
 go_enter Try.func33, Try.ntmps33
 go_wp2_with fail
 refine (C1.out _ S0.out).mono ?_
 rintro e w1 ⟨rfl, b1⟩
 have S := Lib.hid (S0.out.below b1)
 clear b1
 by_cases h0 : d = 0
 rotate_left
 ·have hdb : (d != 0) = true := by rw [bne_iff_ne]; exact h0
  have H0 := Lib.hid h0
  go_wp2_with fail
  refine bodyPost_ret (v := .tuple #[.slice none 0 0, .slice none 0 0, .slice none 0 0, .int .i64 d]) (by simp [results, Try.results33, go_sem]) rfl ?_
  exact ⟨_, _, _, rfl, by rw [okL_ne H0.out]; exact OwnG.nil _ _ _ _ _, by rw [okL_ne H0.out]; exact OwnG.nil _ _ _ _ _, by rw [okL_ne H0.out]; exact OwnG.nil _ _ _ _ _, S.out.bel⟩
 subst h0
 obtain ⟨n, p, rfl, hf, hp⟩ := HK.out.at_
 have hw := HK.out.chk.1
 have hpid := fst_id hf hp
 have HW := Lib.hid hw
 have HWF : Hid ((Lit.int .i64 id).wf = true) := Lib.hid (by rw [← hpid]; exact id_wf hw hp)
 have x0 := S.out.c
 clear hw hf hp hpid
 go_wp2_with fail
 refine (C2.out HW.out HWF.out _ S.out).mono ?_
 rintro e w2 ⟨v1, v2, v3, rfl, o1, o2, o3, b2⟩
 have S2 := Lib.hid (S.out.below b2)
 obtain ⟨A1, c1, rfl, -⟩ := o1.form
 obtain ⟨A2, c2, rfl, -⟩ := o2.form
 obtain ⟨A3, c3, rfl, -⟩ := o3.form
 obtain ⟨l1, hl1⟩ : ∃ l, sigH ws id = l := ⟨_, rfl⟩
 obtain ⟨l2, hl2⟩ : ∃ l, sigO ws id = l := ⟨_, rfl⟩
 obtain ⟨l3, hl3⟩ : ∃ l, sigR ws id = l := ⟨_, rfl⟩
 have HL := Lib.hid (And.intro hl1 (And.intro hl2 hl3))
 rw [hl1] at o1 ⊢
 rw [hl2] at o2 ⊢
 rw [hl3] at o3 ⊢
 obtain ⟨W3, hW3⟩ : ∃ W3, w2.alloc (.cells #[.slice A1 l1.length c1, .slice A2 l2.length c2, .slice A3 l3.length c3] 138) = W3 := ⟨_, rfl⟩
 have b3 : Below w2.heap.size w2 W3 := by rw [← hW3]; exact (Below.refl _ _).alloc (Nat.le_refl _) _
 have hws : w.heap.size ≤ w1.heap.size := S.out.siz
 have O1 := Lib.hid ((o1.below b3).low hws)
 have O2 := Lib.hid ((o2.below b3).low hws)
 have O3 := Lib.hid ((o3.below b3).low hws)
 have S3 := Lib.hid (S2.out.below b3)
 have Y : Hid (W3.cell? ⟨w2.heap.size, 0, none⟩ = some (.slice A1 l1.length c1) ∧ W3.cell? ⟨w2.heap.size, 1, none⟩ = some (.slice A2 l2.length c2) ∧ W3.cell? ⟨w2.heap.size, 2, none⟩ = some (.slice A3 l3.length c3)) := Lib.hid (by rw [← hW3]; exact ⟨by simp [go_sem], by simp [go_sem], by simp [go_sem]⟩)
 have HW3 := Lib.hid hW3
 clear o1 o2 o3 b2 b3 hW3 hl1 hl2 hl3 x0 hws
 go_upto_region 5 with fail
 rw [HW3.out]
 obtain ⟨y0, y1, y2⟩ := Y.out
 go_quiet (fail)
 go_wp2_with fail
 refine bodyPost_ret (v := .tuple #[.slice A1 l1.length c1, .slice A2 l2.length c2, .slice A3 l3.length c3, .int .i64 0]) (by simp [results, Try.results33, go_sem]) rfl ?_
 exact ⟨_, _, _, rfl, by rw [okL_zero, HL.out.1]; exact O1.out.below (below_drewN (Below.refl _ _) _), by rw [okL_zero, HL.out.2.1]; exact O2.out.below (below_drewN (Below.refl _ _) _), by rw [okL_zero, HL.out.2.2]; exact O3.out.below (below_drewN (Below.refl _ _) _), below_drewN S3.out.bel _⟩

end Go.Proofs.Ytkoacclbempmdaa

/- Plain mathematics: what the law CarrierMonotone asks of signs is that more by them gives no less. -/
namespace Go.Proofs.Ytkoacclbempmdaa
open Go.RowKit

theorem upB_at {g a b : List Int} (h : upB g a b = true) {i : Nat} {x y z : Int} (hx : g[i]? = some x) (hy : a[i]? = some y) (hz : b[i]? = some z) : x * y ≤ x * z := by
 unfold upB at h
 rw [decide_eq_true_iff] at h
 have := h i (List.getElem?_eq_some_iff.1 hx).1
 rwa [List.getD_eq_getElem?_getD, List.getD_eq_getElem?_getD, List.getD_eq_getElem?_getD, hx, hy, hz] at this
theorem sgO_pos {e : Nat → Nat} {p : Pl} (h : p.n + 1 = e p.c) : sgO e p = 1 := by unfold sgO; rw [if_pos (by omega)]
theorem sgO_neg {e : Nat → Nat} {p : Pl} (h : p.n + 1 < e p.c) : sgO e p = -1 := by unfold sgO; rw [if_neg (by omega), if_pos (by omega)]
theorem sgR_neg {e : Nat → Nat} {p : Pl} (h : p.n < e p.c) : sgR e p = -1 := by unfold sgR; rw [if_pos (by omega)]
theorem sgO_at {ws : Wk} {id : Int} {i : Nat} {p : Pl} (h : (allP ws)[i]? = some p) : (sigO ws id)[i]? = some (sgO (endE ws id) p) := by unfold sigO; rw [List.getElem?_map, h]; rfl
theorem sgR_at {ws : Wk} {id : Int} {i : Nat} {p : Pl} (h : (allP ws)[i]? = some p) : (sigR ws id)[i]? = some (sgR (endE ws id) p) := by unfold sigR; rw [List.getElem?_map, h]; rfl
theorem up_UpS {ws : Wk} {id : Int} {s t : Wa} (h1 : upB (sigH ws id) s.river t.river = true) (h2 : upB (sigO ws id) s.boards t.boards = true) (h3 : upB (sigO ws id) s.leaks t.leaks = true) (h4 : upB (sigR ws id) s.losses t.losses = true) : UpS ws (endE ws id) s t where
 r k c x y hc hx hy he := by
  have := upB_at h1 (i := k) (x := 1) (by unfold sigH; rw [List.getElem?_map, hc]; simp only [Option.map_some]; unfold sgH; congr 1; omega) hx hy
  omega
 b i p x y hp hx hy := ⟨fun he => by
  have := upB_at h2 (sgO_at hp) hx hy
  rw [sgO_pos he] at this
  omega, fun he => by
  have := upB_at h2 (sgO_at hp) hx hy
  rw [sgO_neg he] at this
  omega⟩
 k i p x y hp hx hy := ⟨fun he => by
  have := upB_at h3 (sgO_at hp) hx hy
  rw [sgO_pos he] at this
  omega, fun he => by
  have := upB_at h3 (sgO_at hp) hx hy
  rw [sgO_neg he] at this
  omega⟩
 l i p x y hp hx hy he := by
  have := upB_at h4 (sgR_at hp) hx hy
  rw [sgR_neg he] at this
  omega
theorem mono_up {ws : Wk} {id : Int} {s t : Wa} (hw : WOk ws) (hs : WaOk ws s) (ht : WaOk ws t) {n : Nat} {p : Pl} (hf : FstIs (fun o : Ou => o.id) (outs ws) id n) (hp : (allP ws)[n]? = some p) (h1 : upB (sigH ws id) s.river t.river = true) (h2 : upB (sigO ws id) s.boards t.boards = true) (h3 : upB (sigO ws id) s.leaks t.leaks = true) (h4 : upB (sigR ws id) s.losses t.losses = true) :
  (flowF ws s).thr.getD n 0 ≤ (flowF ws t).thr.getD n 0 := by
 obtain rfl := fst_id hf hp
 exact flow_mono hw hs ht hp (up_UpS h1 h2 h3 h4)
/-- Bounds of signs and of water. -/
theorem sigH_b (ws : Wk) (id : Int) : ∀ x ∈ sigH ws id, -1 ≤ x ∧ x ≤ 1 := fun x hx => by
 unfold sigH at hx
 obtain ⟨c, -, rfl⟩ := List.mem_map.1 hx
 unfold sgH
 omega
theorem sigO_b (ws : Wk) (id : Int) : ∀ x ∈ sigO ws id, -1 ≤ x ∧ x ≤ 1 := fun x hx => by
 unfold sigO at hx
 obtain ⟨c, -, rfl⟩ := List.mem_map.1 hx
 unfold sgO
 split
 ·omega
 ·split <;> omega
theorem sigR_b (ws : Wk) (id : Int) : ∀ x ∈ sigR ws id, -1 ≤ x ∧ x ≤ 1 := fun x hx => by
 unfold sigR at hx
 obtain ⟨c, -, rfl⟩ := List.mem_map.1 hx
 unfold sgR
 split <;> omega
theorem WaOk.bs {ws : Wk} {s : Wa} (hw : WOk ws) (h : WaOk ws s) : (∀ x ∈ s.river, -1000000000 ≤ x ∧ x ≤ 1000000000) ∧ (∀ x ∈ s.boards, -1000000000 ≤ x ∧ x ≤ 1000000000) ∧ (∀ x ∈ s.leaks, -1000000000 ≤ x ∧ x ≤ 1000000000) ∧ ∀ x ∈ s.losses, -1000000000 ≤ x ∧ x ≤ 1000000000 := by
 refine ⟨fun x hx => by have := h.rr x hx; omega, fun x hx => ?_, fun x hx => ?_, fun x hx => ?_⟩
 all_goals
  obtain ⟨i, hi⟩ := List.mem_iff_getElem?.1 hx
  have hil := (List.getElem?_eq_some_iff.1 hi).1
  obtain ⟨p, hp⟩ := at_total (ws := ws) (n := i) (by have := h.b; have := h.k; have := h.l; omega)
  have o := hw.ou hp
 ·have := h.ob i p x hp hi
  have := o.pu
  omega
 ·have := h.ok i p x hp hi
  have := o.k0
  have := o.k1
  omega
 ·have := h.ol i p x hp hi
  have := o.s0
  have := o.s1
  omega
end Go.Proofs.Ytkoacclbempmdaa

/- What flows lies between its ends; narrower spans have no wider ends (mathematics). -/
namespace Go.Proofs.Ytkoacclbempmdaa
open Go.RowKit

/-- Water that lies in a case. -/
structure InCa (s : Ca) (t : Wa) : Prop where
 r : ∀ (i : Nat) (x : Int) (y : Int × Int), t.river[i]? = some x → s.river[i]? = some y → y.1 ≤ x ∧ x ≤ y.2
 b : ∀ (i : Nat) (x : Int) (y : Int × Int), t.boards[i]? = some x → s.boards[i]? = some y → y.1 ≤ x ∧ x ≤ y.2
theorem allIn_iff {l : List Int} {ss : List (Int × Int)} : allIn l ss = true ↔ ∀ (i : Nat) (x : Int) (y : Int × Int), l[i]? = some x → ss[i]? = some y → y.1 ≤ x ∧ x ≤ y.2 := by
 unfold allIn
 rw [decide_eq_true_iff]
 constructor
 ·intro h i x y hx hy
  have := h i (List.getElem?_eq_some_iff.1 hx).1
  unfold areB at this
  rw [hx, hy] at this
  exact inB_iff.1 this
 ·intro h i hi
  unfold areB
  obtain ⟨x, hx⟩ : ∃ x, l[i]? = some x := ⟨_, List.getElem?_eq_getElem hi⟩
  rw [hx]
  cases hy : ss[i]? with
  | none => rfl
  | some y => exact inB_iff.2 (h i x y hx hy)
theorem InCa.all {s : Ca} {t : Wa} (h : InCa s t) : (allIn t.river s.river && allIn t.boards s.boards) = true := by
 rw [Bool.and_eq_true]
 exact ⟨allIn_iff.2 h.r, allIn_iff.2 h.b⟩
theorem InCa.of {s : Ca} {t : Wa} (h : (allIn t.river s.river && allIn t.boards s.boards) = true) : InCa s t := by
 rw [Bool.and_eq_true] at h
 exact ⟨allIn_iff.1 h.1, allIn_iff.1 h.2⟩
theorem sgH_pos {e : Nat → Nat} {c : Nat} (h : 0 < e c) : sgH e c = 1 := by unfold sgH; omega
/-- Each number of a corner is an end of its span. -/
theorem exW_in {ws : Wk} {s : Ca} (hc : CaOk ws s) (e : Nat → Nat) (way : Int) : InCa s (exW ws s e way) := by
 refine ⟨fun i x y hx hy => ?_, fun i x y hx hy => ?_⟩
 ·have hi := (List.getElem?_eq_some_iff.1 hy).1
  unfold exW at hx
  simp only [List.getElem?_map, List.getElem?_range hi, Option.map_some, Option.some.injEq] at hx
  subst hx
  rw [getD_of hy]
  exact endV_in (spB_iff.1 (hc.rr y (List.mem_of_getElem? hy))).2.1
 ·have hi := (List.getElem?_eq_some_iff.1 hy).1
  obtain ⟨p, hp⟩ := at_total (ws := ws) (n := i) (by rw [← hc.b]; exact hi)
  have := bd_at (way := way) (e := e) hp (lo := y.1) (hi := y.2) hy
  rw [this] at hx
  cases hx
  exact endV_in (spB_iff.1 (hc.ob i p y hp hy)).2.1
theorem up_low {ws : Wk} {s : Ca} {t : Wa} (hc : CaOk ws s) (ht : WaOk ws t) (hi : InCa s t) (e : Nat → Nat) : UpS ws e (exW ws s e 1) t where
 r := fun k c x y hk hx hy he => by
  obtain ⟨sp, hs⟩ : ∃ sp, s.river[k]? = some sp := ⟨_, List.getElem?_eq_getElem (by have := (List.getElem?_eq_some_iff.1 hy).1; have h1 := ht.r; have h2 := hc.r; simp [headsL] at h2; omega)⟩
  have := rv_at (ws := ws) (e := e) (way := 1) (g := sgH e c) (lo := sp.1) (hi := sp.2) (by rw [List.getElem?_map, hk]; rfl) hs
  rw [this] at hx
  cases hx
  rw [sgH_pos he]
  have := hi.r k y sp hy hs
  unfold endV
  rw [if_neg (by decide)]
  exact this.1
 b := fun i p x y hp hx hy => by
  obtain ⟨sp, hs⟩ : ∃ sp, s.boards[i]? = some sp := ⟨_, List.getElem?_eq_getElem (by rw [hc.b]; exact lt_total hp)⟩
  have := bd_at (way := 1) (e := e) hp (lo := sp.1) (hi := sp.2) hs
  rw [this] at hx
  cases hx
  have := hi.b i y sp hy hs
  refine ⟨fun h => ?_, fun h => ?_⟩
  ·rw [sgO_pos h]; unfold endV; rw [if_neg (by decide)]; exact this.1
  ·rw [sgO_neg h]; unfold endV; rw [if_pos (by decide)]; exact this.2
 k := fun i p x y hp hx hy => by
  rw [lk_at hp] at hx
  cases hx
  have := ht.ok i p y hp hy
  refine ⟨fun h => ?_, fun h => ?_⟩
  ·rw [sgO_pos h]; unfold endV; rw [if_neg (by decide)]; exact this.1
  ·rw [sgO_neg h]; unfold endV; rw [if_pos (by decide)]; exact this.2
 l := fun i p x y hp hx hy h => by
  rw [ls_at hp] at hx
  cases hx
  have := ht.ol i p y hp hy
  rw [sgR_neg h]; unfold endV; rw [if_pos (by decide)]; exact this.2
theorem up_high {ws : Wk} {s : Ca} {t : Wa} (hc : CaOk ws s) (ht : WaOk ws t) (hi : InCa s t) (e : Nat → Nat) : UpS ws e t (exW ws s e (-1)) where
 r := fun k c y x hk hy hx he => by
  obtain ⟨sp, hs⟩ : ∃ sp, s.river[k]? = some sp := ⟨_, List.getElem?_eq_getElem (by have := (List.getElem?_eq_some_iff.1 hy).1; have h1 := ht.r; have h2 := hc.r; simp [headsL] at h2; omega)⟩
  have := rv_at (ws := ws) (e := e) (way := -1) (g := sgH e c) (lo := sp.1) (hi := sp.2) (by rw [List.getElem?_map, hk]; rfl) hs
  rw [this] at hx
  cases hx
  rw [sgH_pos he]
  have := hi.r k y sp hy hs
  unfold endV
  rw [if_pos (by decide)]
  exact this.2
 b := fun i p y x hp hy hx => by
  obtain ⟨sp, hs⟩ : ∃ sp, s.boards[i]? = some sp := ⟨_, List.getElem?_eq_getElem (by rw [hc.b]; exact lt_total hp)⟩
  have := bd_at (way := -1) (e := e) hp (lo := sp.1) (hi := sp.2) hs
  rw [this] at hx
  cases hx
  have := hi.b i y sp hy hs
  refine ⟨fun h => ?_, fun h => ?_⟩
  ·rw [sgO_pos h]; unfold endV; rw [if_pos (by decide)]; exact this.2
  ·rw [sgO_neg h]; unfold endV; rw [if_neg (by decide)]; exact this.1
 k := fun i p y x hp hy hx => by
  rw [lk_at hp] at hx
  cases hx
  have := ht.ok i p y hp hy
  refine ⟨fun h => ?_, fun h => ?_⟩
  ·rw [sgO_pos h]; unfold endV; rw [if_pos (by decide)]; exact this.2
  ·rw [sgO_neg h]; unfold endV; rw [if_neg (by decide)]; exact this.1
 l := fun i p y x hp hy hx h => by
  rw [ls_at hp] at hx
  cases hx
  have := ht.ol i p y hp hy
  rw [sgR_neg h]; unfold endV; rw [if_neg (by decide)]; exact this.1
/-- What flows lies between its ends. -/
theorem between {ws : Wk} {s : Ca} {t : Wa} (hw : WOk ws) (hc : CaOk ws s) (ht : WaOk ws t) (hi : InCa s t) {i : Nat} {p : Pl} (hp : (allP ws)[i]? = some p) : flE ws s p.o.id i 1 ≤ (flowF ws t).thr.getD i 0 ∧ (flowF ws t).thr.getD i 0 ≤ flE ws s p.o.id i (-1) :=
 ⟨flow_mono hw (exW_ok hw hc _ _) ht hp (up_low hc ht hi _), flow_mono hw ht (exW_ok hw hc _ _) hp (up_high hc ht hi _)⟩
/-- A case within another one. -/
structure SubCa (a s : Ca) : Prop where
 r : ∀ (i : Nat) (x y : Int × Int), a.river[i]? = some x → s.river[i]? = some y → y.1 ≤ x.1 ∧ x.1 ≤ x.2 ∧ x.2 ≤ y.2
 b : ∀ (i : Nat) (x y : Int × Int), a.boards[i]? = some x → s.boards[i]? = some y → y.1 ≤ x.1 ∧ x.1 ≤ x.2 ∧ x.2 ≤ y.2
 lr : a.river.length = s.river.length
 lb : a.boards.length = s.boards.length
theorem SubCa.ok {ws : Wk} {a s : Ca} (h : SubCa a s) (hc : CaOk ws s) : CaOk ws a := by
 refine ⟨h.lr.trans hc.r, h.lb.trans hc.b, fun x hx => ?_, fun i p x hp hx => ?_⟩
 ·obtain ⟨i, hi⟩ := List.getElem?_of_mem hx
  obtain ⟨y, hy⟩ : ∃ y, s.river[i]? = some y := ⟨_, List.getElem?_eq_getElem (by rw [← h.lr]; exact (List.getElem?_eq_some_iff.1 hi).1)⟩
  have h1 := h.r i x y hi hy
  have h2 := spB_iff.1 (hc.rr y (List.mem_of_getElem? hy))
  exact spB_iff.2 ⟨by omega, by omega, by omega⟩
 ·obtain ⟨y, hy⟩ : ∃ y, s.boards[i]? = some y := ⟨_, List.getElem?_eq_getElem (by rw [← h.lb]; exact (List.getElem?_eq_some_iff.1 hx).1)⟩
  have h1 := h.b i x y hx hy
  have h2 := spB_iff.1 (hc.ob i p y hp hy)
  exact spB_iff.2 ⟨by omega, by omega, by omega⟩
theorem SubCa.in_ {a s : Ca} {t : Wa} (h : SubCa a s) (hi : InCa a t) : InCa s t := by
 refine ⟨fun i x y hx hy => ?_, fun i x y hx hy => ?_⟩
 ·obtain ⟨z, hz⟩ : ∃ z, a.river[i]? = some z := ⟨_, List.getElem?_eq_getElem (by rw [h.lr]; exact (List.getElem?_eq_some_iff.1 hy).1)⟩
  have h1 := h.r i z y hz hy
  have h2 := hi.r i x z hx hz
  omega
 ·obtain ⟨z, hz⟩ : ∃ z, a.boards[i]? = some z := ⟨_, List.getElem?_eq_getElem (by rw [h.lb]; exact (List.getElem?_eq_some_iff.1 hy).1)⟩
  have h1 := h.b i z y hz hy
  have h2 := hi.b i x z hx hz
  omega
/-- The ends of a narrower case do not move outwards. -/
theorem ends_sub {ws : Wk} {a s : Ca} (hw : WOk ws) (hc : CaOk ws s) (h : SubCa a s) {i : Nat} {p : Pl} (hp : (allP ws)[i]? = some p) : flE ws s p.o.id i 1 ≤ flE ws a p.o.id i 1 ∧ flE ws a p.o.id i (-1) ≤ flE ws s p.o.id i (-1) :=
 ⟨(between hw hc (exW_ok hw (h.ok hc) _ _) (h.in_ (exW_in (h.ok hc) _ _)) hp).1, (between hw hc (exW_ok hw (h.ok hc) _ _) (h.in_ (exW_in (h.ok hc) _ _)) hp).2⟩
/-- The ends: the least is not negative, and no more than the greatest. -/
theorem ends_b {ws : Wk} {s : Ca} (hw : WOk ws) (hc : CaOk ws s) {i : Nat} {p : Pl} (hp : (allP ws)[i]? = some p) : 0 ≤ flE ws s p.o.id i 1 ∧ flE ws s p.o.id i 1 ≤ flE ws s p.o.id i (-1) := by
 have ho := exW_ok hw hc (endE ws p.o.id) 1
 refine ⟨?_, (between hw hc ho (exW_in hc _ _) hp).2⟩
 have hf := FB.flow ho hw (total ws) (Nat.le_refl _)
 have hl := thr_len ws (exW ws s (endE ws p.o.id) 1) (total ws) (Nat.le_refl _)
 obtain ⟨x, hx⟩ : ∃ x, (flowTo ws (exW ws s (endE ws p.o.id) 1) (total ws)).thr[i]? = some x := ⟨_, List.getElem?_eq_getElem (by rw [hl]; exact lt_total hp)⟩
 have := hf.r x (List.mem_of_getElem? hx)
 unfold flE
 show 0 ≤ (flowTo ws (exW ws s (endE ws p.o.id) 1) (total ws)).thr.getD i 0
 rw [List.getD_eq_getElem?_getD, hx]
 exact this.1
/-- What Ends returns is accepted. -/
theorem ends_accepted {ws : Wk} {s : Ca} (hw : WOk ws) (hc : CaOk ws s) (id : Int) (i : Nat) : SupOk ws s id i (flE ws s id i 1) (flE ws s id i (-1)) (exW ws s (endE ws id) 1) (exW ws s (endE ws id) (-1)) :=
 ⟨⟨rfl, rfl⟩, ⟨exW_ok hw hc _ _, (exW_in hc _ _).all, rfl⟩, exW_ok hw hc _ _, (exW_in hc _ _).all, rfl⟩
end Go.Proofs.Ytkoacclbempmdaa

/- How a case that came in is opened. -/
namespace Go.Proofs.Ytkoacclbempmdaa
open Go.ChangeShapes Go.WideShapes Go.ChangeAt Go.RowKit Go.Joins
section
variable {H : Type} {enc : TypeId × Value → H} {W : World} {base : Nat} {sp : Nat → Bool}
set_option maxRecDepth 100000 in
/-- Spans. -/
theorem spans_open {fuel : Nat} {v : Value} {y : DataW H × List MemPlace} (h : DataW.trod enc Try.prog W base sp true fuel 44 [v] = some y) (hw : WB 44 y.1) : ∃ l : List (Int × Int), RR enc2 W.heap.size v l W := by
 obtain ⟨A, c, l, e, hf, hr⟩ := row_open (α := Int × Int) Try.underlying44 qcellsS (by decide) pbS (fun n b o => W.cell? ⟨b, o, none⟩ = some (.int .i64 n.1) ∧ W.cell? ⟨b, o + 1, none⟩ = some (.int .i64 n.2)) (fun fuel a x _ hx => by
  obtain ⟨cs, hl, hc, h2⟩ := cells_of hx
  match cs, hl with
  | [u0, u1], _ =>
   obtain ⟨p, f, rfl, rfl⟩ := span_of h2
   have h0 := hc 0 (by decide)
   have h1 := hc 1 (by decide)
   rw [Addr.add_zero'] at h0
   refine ⟨(p, f), ⟨_, h0.trans rfl⟩, fun hs => ?_⟩
   rw [add_plain hs] at h1
   obtain ⟨b, o, s⟩ := a
   simp only at hs
   subst hs
   exact ⟨h0.trans rfl, h1.trans rfl⟩) h hw
 refine ⟨l, A, c, e, hf, fun hp => ?_⟩
 obtain ⟨b, o, e1, e2, hh⟩ := hr hp
 refine ⟨b, o, e1, e2, fun j u hj => ?_⟩
 obtain ⟨k, i, x, hk, hi, rfl, hu⟩ := E2.inv hj
 obtain ⟨g1, g2⟩ := hh k x hk
 match i, hi with
 | 0, _ => cases hu; exact g1
 | 1, _ => cases hu; exact g2
set_option maxRecDepth 100000 in
/-- A case that came in. -/
theorem case_open {b0 : Nat} {v : Value} {d : DataW H} {p : List MemPlace} (hv : Value.okWide Try.prog W .any b0 46 v) (h : DataW.Trod enc Try.prog W base sp true 46 v d p) (hw : WB 46 d) : ∃ s : Ca, RCa W.heap.size v s W := by
 obtain ⟨v0, v1, y0, y1, m, rfl, rfl, _, h0, h1⟩ := open_agg2 Try.underlying46 (by kernel_rfl) qcellsK hv h
 have hw' := hw.agg Try.underlying46
 obtain ⟨l0, r0⟩ := spans_open h0 (hw' 0 _ y0.1 rfl rfl)
 obtain ⟨l1, r1⟩ := spans_open h1 (hw' 1 _ y1.1 rfl rfl)
 exact ⟨⟨l0, l1⟩, _, _, rfl, r0, r1⟩
end
end Go.Proofs.Ytkoacclbempmdaa

/- Contract of the laws' wet. -/
namespace Go.Proofs.Ytkoacclbempmdaa
open Go.RowKit

def WetPost (s : Wa) (w : World) (e : Ending) (w' : World) : Prop := ∃ b, e = .returned (.bool b) ∧ (b = true → s.river.length ≤ 100 ∧ s.boards.length ≤ 100 ∧ s.leaks.length ≤ 100 ∧ s.losses.length ≤ 100) ∧ Below w.heap.size w w'
set_option maxHeartbeats 8000000 in
set_option maxRecDepth 1000000 in
theorem wet_any (v : Value) (s : Wa) (w : World) (h : RWa w.heap.size v s w) : Calls Try.prog 19 #[v] w (WetPost s w) := by
 obtain ⟨A1, c1, A2, c2, A3, c3, A4, c4, rfl⟩ := h.form
 clear h
 have hs : (100 : Int) < (s.river.length : Int) ∨ ((s.river.length : Int) ≤ 100 ∧ (100 : Int) < (s.boards.length : Int)) ∨ ((s.river.length : Int) ≤ 100 ∧ (s.boards.length : Int) ≤ 100 ∧ (100 : Int) < (s.leaks.length : Int)) ∨ ((s.river.length : Int) ≤ 100 ∧ (s.boards.length : Int) ≤ 100 ∧ (s.leaks.length : Int) ≤ 100 ∧ (100 : Int) < (s.losses.length : Int)) ∨ ((s.river.length : Int) ≤ 100 ∧ (s.boards.length : Int) ≤ 100 ∧ (s.leaks.length : Int) ≤ 100 ∧ (s.losses.length : Int) ≤ 100) := by omega
 have HB : Hid (Below w.heap.size w (w.alloc (.cells #[.slice A1 s.river.length c1, .slice A2 s.boards.length c2, .slice A3 s.leaks.length c3, .slice A4 s.losses.length c4] 27))) := Lib.hid ((Below.refl _ _).alloc (Nat.le_refl _) _)
 rcases hs with h1 | ⟨h1, h2⟩ | ⟨h1, h2, h3⟩ | ⟨h1, h2, h3, h4⟩ | ⟨h1, h2, h3, h4⟩
 all_goals
  go_enter Try.func19, Try.ntmps19
  go_wp2_with fail
  go_ret
  first
   | exact ⟨false, rfl, (fun h => by cases h), HB.out⟩
   | exact ⟨true, rfl, (fun _ => by omega), HB.out⟩
   | exact ⟨_, rfl, (fun h => by have := of_decide_eq_true h; omega), HB.out⟩

end Go.Proofs.Ytkoacclbempmdaa

/- A course in memory, and the law's runs. -/
namespace Go.Proofs.Ytkoacclbempmdaa
open Go.RowKit

/-- A run: its minutes, its water. -/
structure Rn where
 mn : Int
 wa : Wa
/-- The cells of a run. -/
def RnAt (B b o : Nat) (r : Rn) (w : World) : Prop :=
 w.cell? ⟨b, o, none⟩ = some (.int .i64 r.mn) ∧ ∃ u0 u1 u2 u3, w.cell? ⟨b, o + 1, none⟩ = some u0 ∧ w.cell? ⟨b, o + 1 + 1, none⟩ = some u1 ∧ w.cell? ⟨b, o + 1 + 2, none⟩ = some u2 ∧ w.cell? ⟨b, o + 1 + 3, none⟩ = some u3 ∧ RWa B (.agg #[u0, u1, u2, u3]) r.wa w
/-- A slice of runs. -/
def RN (B : Nat) (v : Value) (l : List Rn) (w : World) : Prop :=
 ∃ A c, v = .slice A l.length c ∧ Fits l.length ∧ (0 < l.length → ∃ b o, A = some ⟨b, o, none⟩ ∧ b < B ∧ ∀ k x, l[k]? = some x → RnAt B b (o + k * 5) x w)
theorem RN.up {B B' : Nat} {v : Value} {l : List Rn} {w w' : World} (h : RN B v l w) (hB : B ≤ B') (hb : Below B w w') : RN B' v l w' := by
 obtain ⟨A, c, e, hl, hc⟩ := h
 refine ⟨A, c, e, hl, fun hp => ?_⟩
 obtain ⟨b, o, e2, hlt, k⟩ := hc hp
 refine ⟨b, o, e2, Nat.lt_of_lt_of_le hlt hB, fun i x hi => ?_⟩
 obtain ⟨h0, u0, u1, u2, u3, h1, h2, h3, h4, h5⟩ := k i x hi
 exact ⟨(hb.cell (p := ⟨b, o + i * 5, none⟩) hlt).trans h0, u0, u1, u2, u3, (hb.cell (p := ⟨b, o + i * 5 + 1, none⟩) hlt).trans h1, (hb.cell (p := ⟨b, o + i * 5 + 1 + 1, none⟩) hlt).trans h2, (hb.cell (p := ⟨b, o + i * 5 + 1 + 2, none⟩) hlt).trans h3, (hb.cell (p := ⟨b, o + i * 5 + 1 + 3, none⟩) hlt).trans h4, h5.up hB hb⟩
theorem RN.form {B : Nat} {v : Value} {l : List Rn} {w : World} (h : RN B v l w) : ∃ A c, v = .slice A l.length c := by obtain ⟨A, c, e, _⟩ := h; exact ⟨A, c, e⟩
theorem RN.fits {B : Nat} {v : Value} {l : List Rn} {w : World} (h : RN B v l w) : Fits l.length := by obtain ⟨_, _, _, hl, _⟩ := h; exact hl
theorem rn_at {B n c j : Nat} {A : Option Addr} {l : List Rn} {r : Rn} {w : World} (h : RN B (.slice A n c) l w) (hp : l[j]? = some r) : ∃ b o, A = some ⟨b, o, none⟩ ∧ b < B ∧ w.cell? ⟨b, o + j * 5, none⟩ = some (.int .i64 r.mn) ∧ ∃ A1 c1 A2 c2 A3 c3 A4 c4, w.cell? ⟨b, o + j * 5 + 1, none⟩ = some (.slice A1 r.wa.river.length c1) ∧ w.cell? ⟨b, o + j * 5 + 1 + 1, none⟩ = some (.slice A2 r.wa.boards.length c2) ∧ w.cell? ⟨b, o + j * 5 + 1 + 2, none⟩ = some (.slice A3 r.wa.leaks.length c3) ∧ w.cell? ⟨b, o + j * 5 + 1 + 3, none⟩ = some (.slice A4 r.wa.losses.length c4) ∧ RWa B (.agg #[.slice A1 r.wa.river.length c1, .slice A2 r.wa.boards.length c2, .slice A3 r.wa.leaks.length c3, .slice A4 r.wa.losses.length c4]) r.wa w := by
 obtain ⟨A0, c0, e0, -, hx⟩ := h
 have hj := (List.getElem?_eq_some_iff.1 hp).1
 simp only [Value.slice.injEq] at e0
 obtain ⟨rfl, -, -⟩ := e0
 obtain ⟨b, o, e1, e2, hh⟩ := hx (by omega)
 obtain ⟨h0, u0, u1, u2, u3, h1, h2, h3, h4, h5⟩ := hh j r hp
 obtain ⟨A1, c1, A2, c2, A3, c3, A4, c4, e⟩ := h5.form
 simp only [Value.agg.injEq, Array.mk.injEq, List.cons.injEq, and_true] at e
 obtain ⟨rfl, rfl, rfl, rfl⟩ := e
 exact ⟨b, o, e1, e2, h0, A1, c1, A2, c2, A3, c3, A4, c4, h1, h2, h3, h4, h5⟩

def RunsPost (l : List Rn) (w : World) (e : Ending) (w' : World) : Prop := ∃ b, e = .returned (.bool b) ∧ (b = true → l.length ≤ 80) ∧ Below w.heap.size w w'
set_option maxHeartbeats 8000000 in
set_option maxRecDepth 1000000 in
theorem runs_any (v : Value) (l : List Rn) (w : World) (h : RN w.heap.size v l w) : Calls Try.prog 40 #[v] w (RunsPost l w) := by
 obtain ⟨A, c, rfl⟩ := h.form
 have HF := Lib.hid h.fits
 have H := Lib.hid h
 have HB := Lib.hid (Below.refl w.heap.size w)
 have hfit : (l.length : Int) ≤ 1000000000000000 := by have := HF.out; omega
 clear h
 go_enter Try.func40, Try.ntmps40
 go_wp2_with fail
 go_loopw [3] (fun a wr => ∃ j : Nat, a = .int .i64 j ∧ j ≤ l.length ∧ Below w.heap.size w wr) (fun a _ => l.length - (intOf a).toNat)
 case atStart => exact ⟨0, rfl, by omega, HB.out⟩
 case round =>
  obtain ⟨j, rfl, hj, hb⟩ := hrel
  have S := Lib.hid hb
  clear hb
  by_cases hjl : j < l.length
  ·have hj0 : (j : Int) < (l.length : Int) := by omega
   obtain ⟨r, hr⟩ : ∃ r, l[j]? = some r := ⟨_, List.getElem?_eq_getElem hjl⟩
   obtain ⟨b, o, rfl, hlt, q0, A1, c1, A2, c2, A3, c3, A4, c4, q1, q2, q3, q4, q5⟩ := rn_at (H.out.up S.out.size S.out) hr
   have Q := Lib.hid q5
   clear q5 hr
   go_wp2_with fail
   refine (wet_any _ r.wa _ Q.out).mono ?_
   rintro e w1 ⟨x, rfl, -, b1⟩
   have S1 := Lib.hid (S.out.trans (b1.mono S.out.size))
   clear b1 Q q0 q1 q2 q3 q4
   cases x
   ·go_wp2_with fail
    go_ret
    exact ⟨false, rfl, (fun h => by cases h), S1.out⟩
   ·go_wp2_with fail
    go_roundw
    case rel => exact ⟨j + 1, by go_num, by omega, S1.out⟩
    case measure => show l.length - ((j : Int) + 1).toNat < l.length - (j : Int).toNat; omega
  ·have hj0 : (l.length : Int) ≤ (j : Int) := by omega
   have hs : (l.length : Int) ≤ 6 ∨ ((6 : Int) < (l.length : Int) ∧ (l.length : Int) ≤ 60) ∨ ((6 : Int) < (l.length : Int) ∧ (60 : Int) < (l.length : Int) ∧ (l.length : Int) ≤ 80) ∨ ((6 : Int) < (l.length : Int) ∧ (60 : Int) < (l.length : Int) ∧ (80 : Int) < (l.length : Int)) := by omega
   rcases hs with h1 | ⟨h1, h2⟩ | ⟨h1, h2, h3⟩ | ⟨h1, h2, h3⟩
   all_goals
    go_wp2_with fail
    go_ret
    first
     | exact ⟨false, rfl, (fun h => by cases h), S.out⟩
     | exact ⟨_, rfl, (fun h => by (try simp only [Bool.or_eq_true, decide_eq_true_eq] at h); omega), S.out⟩
     | exact ⟨true, rfl, (fun _ => by omega), S.out⟩
end Go.Proofs.Ytkoacclbempmdaa

/- How a course that came in is opened. -/
namespace Go.Proofs.Ytkoacclbempmdaa
open Go.ChangeShapes Go.WideShapes Go.ChangeAt Go.RowKit Go.Joins
instance : Inhabited Rn := ⟨⟨0, ⟨[], [], [], []⟩⟩⟩
theorem qcellsR : Try.prog.cellsOf 78 = 5 := by kernel_rfl
theorem pbR : 0 < Try.prog.bytesOf 78 := by decide +kernel
section
variable {H : Type} {enc : TypeId × Value → H} {W : World} {base : Nat} {sp : Nat → Bool}
set_option maxRecDepth 100000 in
set_option maxHeartbeats 1000000 in
/-- Water in its cells. -/
theorem wat_of {fuel : Nat} {u0 u1 u2 u3 : Value} {x : DataW H × List MemPlace} (h2 : DataW.trod enc Try.prog W base sp true fuel 27 [u0, u1, u2, u3] = some x) (hw : WB 27 x.1) : ∃ s : Wa, RWa W.heap.size (.agg #[u0, u1, u2, u3]) s W := by
 obtain ⟨xs, m, _, ex, _, hxl, hf⟩ := DataW.trod_struct Try.underlying27 h2
 obtain ⟨x0, e0⟩ : ∃ y, xs[0]? = some y := ⟨_, List.getElem?_eq_getElem (by rw [hxl]; decide)⟩
 obtain ⟨x1, e1⟩ : ∃ y, xs[1]? = some y := ⟨_, List.getElem?_eq_getElem (by rw [hxl]; decide)⟩
 obtain ⟨x2, e2⟩ : ∃ y, xs[2]? = some y := ⟨_, List.getElem?_eq_getElem (by rw [hxl]; decide)⟩
 obtain ⟨x3, e3⟩ : ∃ y, xs[3]? = some y := ⟨_, List.getElem?_eq_getElem (by rw [hxl]; decide)⟩
 have q0 : DataW.trod enc Try.prog W base sp true m 25 (([u0, u1, u2, u3].drop 0).take (Try.prog.cellsOf 25)) = xs[0]? := hf 0 _ rfl
 have q1 : DataW.trod enc Try.prog W base sp true m 25 (([u0, u1, u2, u3].drop 1).take (Try.prog.cellsOf 25)) = xs[1]? := hf 1 _ rfl
 have q2 : DataW.trod enc Try.prog W base sp true m 25 (([u0, u1, u2, u3].drop 2).take (Try.prog.cellsOf 25)) = xs[2]? := hf 2 _ rfl
 have q3 : DataW.trod enc Try.prog W base sp true m 25 (([u0, u1, u2, u3].drop 3).take (Try.prog.cellsOf 25)) = xs[3]? := hf 3 _ rfl
 rw [qcellsI, e0] at q0
 rw [qcellsI, e1] at q1
 rw [qcellsI, e2] at q2
 rw [qcellsI, e3] at q3
 rw [ex] at hw
 have hw' := hw.agg Try.underlying27
 obtain ⟨A0, c0, l0, rfl, r0⟩ := ints_open q0 (hw' 0 _ x0.1 rfl (by rw [List.getElem?_map, e0]; rfl))
 obtain ⟨A1, c1, l1, rfl, r1⟩ := ints_open q1 (hw' 1 _ x1.1 rfl (by rw [List.getElem?_map, e1]; rfl))
 obtain ⟨A2, c2, l2, rfl, r2⟩ := ints_open q2 (hw' 2 _ x2.1 rfl (by rw [List.getElem?_map, e2]; rfl))
 obtain ⟨A3, c3, l3, rfl, r3⟩ := ints_open q3 (hw' 3 _ x3.1 rfl (by rw [List.getElem?_map, e3]; rfl))
 exact ⟨⟨l0, l1, l2, l3⟩, _, _, _, _, rfl, r0.rr, r1.rr, r2.rr, r3.rr⟩
set_option maxRecDepth 100000 in
set_option maxHeartbeats 1000000 in
/-- Runs. -/
theorem runs_row {fuel : Nat} {v : Value} {y : DataW H × List MemPlace} (h : DataW.trod enc Try.prog W base sp true fuel 74 [v] = some y) (hw : WB 74 y.1) : ∃ l : List Rn, RN W.heap.size v l W := by
 obtain ⟨A, c, l, e, hf, hr⟩ := row_open (α := Rn) Try.underlying74 qcellsR (by decide) pbR (fun x b o => RnAt W.heap.size b o x W) (fun fuel a x hwx hx => by
  obtain ⟨cs, hl, hc, h2⟩ := cells_of hx
  obtain ⟨xs, m, _, ex, _, hxl, hf⟩ := DataW.trod_struct Try.underlying78 h2
  match cs, hl with
  | [u0, u1, u2, u3, u4], _ =>
   obtain ⟨x0, e0⟩ : ∃ y, xs[0]? = some y := ⟨_, List.getElem?_eq_getElem (by rw [hxl]; decide)⟩
   obtain ⟨x1, e1⟩ : ∃ y, xs[1]? = some y := ⟨_, List.getElem?_eq_getElem (by rw [hxl]; decide)⟩
   have q0 : DataW.trod enc Try.prog W base sp true m 3 (([u0, u1, u2, u3, u4].drop 0).take (Try.prog.cellsOf 3)) = xs[0]? := hf 0 _ rfl
   have q1 : DataW.trod enc Try.prog W base sp true m 27 (([u0, u1, u2, u3, u4].drop 1).take (Try.prog.cellsOf 27)) = xs[1]? := hf 1 _ rfl
   rw [qcells3, e0] at q0
   rw [qcellsA, e1] at q1
   obtain ⟨i0, p0, _⟩ := DataW.trod_int Try.underlying3 q0
   simp at p0
   subst p0
   have hw1 : WB 27 x1.1 := by
    rw [ex] at hwx
    exact hwx.agg Try.underlying78 1 _ x1.1 rfl (by rw [List.getElem?_map, e1]; rfl)
   obtain ⟨s, hs1⟩ := wat_of q1 hw1
   have h0 := hc 0 (by decide)
   rw [Addr.add_zero'] at h0
   refine ⟨⟨i0, s⟩, ⟨_, h0.trans rfl⟩, fun hs => ?_⟩
   have had := add_plain hs
   obtain ⟨b, o, z⟩ := a
   simp only at hs
   subst hs
   have hcell : ∀ k u, [Value.int .i64 i0, u1, u2, u3, u4][k]? = some u → k < 5 → W.cell? ⟨b, o + k, none⟩ = some u := fun k u hu hk => by
    have := hc k hk
    rw [had] at this
    exact this.trans hu
   exact ⟨h0.trans rfl, u1, u2, u3, u4, hcell 1 _ rfl (by decide), hcell 2 _ rfl (by decide), hcell 3 _ rfl (by decide), hcell 4 _ rfl (by decide), hs1⟩) h hw
 exact ⟨l, A, c, e, hf, hr⟩
set_option maxRecDepth 100000 in
/-- A course that came in. -/
theorem runs_open {b0 : Nat} {v : Value} {d : DataW H} {p : List MemPlace} (hv : Value.okWide Try.prog W .any b0 74 v) (h : DataW.Trod enc Try.prog W base sp true 74 v d p) (hw : WB 74 d) : ∃ l : List Rn, RN W.heap.size v l W := by
 obtain ⟨a, len, cap, rfl⟩ := okWide_slice Try.underlying74 hv
 obtain ⟨n, h⟩ := h
 exact runs_row (y := (d, p)) h hw
end
end Go.Proofs.Ytkoacclbempmdaa

/- Contracts of the laws' narrow and pair; a list of uint16 that came in. -/
namespace Go.Proofs.Ytkoacclbempmdaa
open Go.RowKit

set_option maxHeartbeats 8000000 in
set_option maxRecDepth 1000000 in
theorem narrow_any (lo hi a b : Int) (w : World) (h0 : 0 ≤ lo) (h1 : lo ≤ hi) (h2 : hi ≤ 1048576) (ha : 0 ≤ a ∧ a ≤ 65535) (hb : 0 ≤ b ∧ b ≤ 65535) :
  Calls Try.prog 31 #[.agg #[.int .i64 lo, .int .i64 hi], .int .u16 a, .int .u16 b] w fun e w' => ∃ l' h', e = .returned (.agg #[.int .i64 l', .int .i64 h']) ∧ lo ≤ l' ∧ l' ≤ h' ∧ h' ≤ hi ∧ Below w.heap.size w w' := by
 obtain ⟨r1, hr1⟩ : ∃ r, a.tmod (hi - lo + 1) = r := ⟨_, rfl⟩
 have b1 : 0 ≤ r1 ∧ r1 ≤ hi - lo := by
  have h3 := Int.emod_nonneg a (show hi - lo + 1 ≠ 0 by omega)
  have h4 := Int.emod_lt_of_pos a (show 0 < hi - lo + 1 by omega)
  rw [← Int.tmod_eq_emod_of_nonneg ha.1, hr1] at h3 h4
  omega
 obtain ⟨r2, hr2⟩ : ∃ r, b.tmod (hi - (lo + r1) + 1) = r := ⟨_, rfl⟩
 have b2 : 0 ≤ r2 ∧ r2 ≤ hi - (lo + r1) := by
  have h3 := Int.emod_nonneg b (show hi - (lo + r1) + 1 ≠ 0 by omega)
  have h4 := Int.emod_lt_of_pos b (show 0 < hi - (lo + r1) + 1 by omega)
  rw [← Int.tmod_eq_emod_of_nonneg hb.1, hr2] at h3 h4
  omega
 have n1 : (hi - lo + 1) ≠ 0 := by omega
 have n2 : (hi - (lo + r1) + 1) ≠ 0 := by omega
 have wa : IntKind.i64.wrap a = a := IntWalk.i64_in _ (by omega)
 have wb : IntKind.i64.wrap b = b := IntWalk.i64_in _ (by omega)
 have w1 : IntKind.i64.wrap (hi - lo) = hi - lo := IntWalk.i64_in _ (by omega)
 have w2 : IntKind.i64.wrap (hi - lo + 1) = hi - lo + 1 := IntWalk.i64_in _ (by omega)
 have w3 : IntKind.i64.wrap (lo + r1) = lo + r1 := IntWalk.i64_in _ (by omega)
 have w4 : IntKind.i64.wrap (hi - (lo + r1)) = hi - (lo + r1) := IntWalk.i64_in _ (by omega)
 have w5 : IntKind.i64.wrap (hi - (lo + r1) + 1) = hi - (lo + r1) + 1 := IntWalk.i64_in _ (by omega)
 have w6 : IntKind.i64.wrap (lo + r1 + r2) = lo + r1 + r2 := IntWalk.i64_in _ (by omega)
 have w7 : IntKind.i64.wrap r1 = r1 := IntWalk.i64_in _ (by omega)
 have w8 : IntKind.i64.wrap r2 = r2 := IntWalk.i64_in _ (by omega)
 go_enter Try.func31, Try.ntmps31
 go_upto_region 1 with fail
 go_quiet (fail)
 obtain ⟨W0, hW0⟩ : ∃ W0, (w.alloc (.cells #[.int .i64 lo, .int .i64 hi] 40)).alloc (.cells #[.int .i64 0, .int .i64 0] 40) = W0 := ⟨_, rfl⟩
 obtain ⟨W1, hW1⟩ : ∃ W1, W0.drewN nq = W1 := ⟨_, rfl⟩
 have b0 : Below w.heap.size w W0 := by rw [← hW0]; exact ((Below.refl _ _).alloc (Nat.le_refl _) _).alloc (by simp) _
 have b01 : Below W0.heap.size W0 W1 := by rw [← hW1]; exact below_drewN (Below.refl _ _) _
 have x0 : W1.cell? ⟨w.heap.size, 0, none⟩ = some (.int .i64 lo) := BelS.c b01 (by rw [← hW0]; simp [go_sem])
 have x1 : W1.cell? ⟨w.heap.size, 1, none⟩ = some (.int .i64 hi) := BelS.c b01 (by rw [← hW0]; simp [go_sem])
 have y0 : W1.cell? ⟨w.heap.size + 1, 0, none⟩ = some (.int .i64 0) := BelS.c b01 (by rw [← hW0]; simp [go_sem])
 have y1 : W1.cell? ⟨w.heap.size + 1, 1, none⟩ = some (.int .i64 0) := BelS.c b01 (by rw [← hW0]; simp [go_sem])
 have hz : W0.heap.size = w.heap.size + 2 := by rw [← hW0]; simp
 have z0 : W1.frozen? ⟨w.heap.size + 1, 0, none⟩ = false := (b01.frozen (p := ⟨w.heap.size + 1, 0, none⟩) (by show w.heap.size + 1 < _; omega)).trans (by rw [← hW0]; simp [go_sem])
 have z1 : W1.frozen? ⟨w.heap.size + 1, 1, none⟩ = false := (b01.frozen (p := ⟨w.heap.size + 1, 1, none⟩) (by show w.heap.size + 1 < _; omega)).trans (by rw [← hW0]; simp [go_sem])
 have HB : Hid (Below w.heap.size w W1) := Lib.hid (b0.trans (b01.mono b0.size))
 have HW0 := Lib.hid hW0
 have HW1 := Lib.hid hW1
 clear hW0 hW1 b0 b01 hz
 rw [HW0.out, HW1.out]
 go_wp2_with fail
 clear x0 x1
 obtain ⟨W5, hW5⟩ : ∃ W5, (W1.setCell ⟨w.heap.size + 1, 0, none⟩ (.int .i64 (lo + r1))).setCell ⟨w.heap.size + 1, 1, none⟩ (.int .i64 (lo + r1 + r2)) = W5 := ⟨_, rfl⟩
 have gs : GrownL [w.heap.size + 1] W1 W5 := by rw [← hW5]; exact (GrownL.set _ _ _ (by simp)).trans (GrownL.set _ _ _ (by simp))
 have p0 : W5.cell? ⟨w.heap.size + 1, 0, none⟩ = some (.int .i64 (lo + r1)) := by rw [← hW5, World.cell?_setCell_other _ ⟨w.heap.size + 1, 1, none⟩ ⟨w.heap.size + 1, 0, none⟩ _ (by simp)]; exact World.cell?_setCell_same' _ _ _ (by rw [y0]; rfl)
 have p1 : W5.cell? ⟨w.heap.size + 1, 1, none⟩ = some (.int .i64 (lo + r1 + r2)) := by rw [← hW5]; exact World.cell?_setCell_same' _ _ _ (by rw [World.cell?_setCell_other _ ⟨w.heap.size + 1, 0, none⟩ ⟨w.heap.size + 1, 1, none⟩ _ (by simp), y1]; rfl)
 rw [hW5]
 have GB := HB.out.trans (gs.below (B := w.heap.size) (by simp) HB.out.size)
 exact bodyPost_ret (v := .agg #[.int .i64 (lo + r1), .int .i64 (lo + r1 + r2)]) (by simp [results, Try.results31, go_sem, p0, p1]) rfl ⟨_, _, rfl, by omega, by omega, by omega, GB⟩
/-- A slice of uint16 that reads as a list, below block B. -/
def RU (B : Nat) (v : Value) (l : List Int) (w : World) : Prop :=
 ∃ A c, v = .slice A l.length c ∧ Fits l.length ∧ (0 < l.length → ∃ b o, A = some ⟨b, o, none⟩ ∧ b < B ∧ ∀ (k : Nat) (n : Int), l[k]? = some n → w.cell? ⟨b, o + k, none⟩ = some (.int .u16 n) ∧ 0 ≤ n ∧ n ≤ 65535)
theorem RU.up {B B' : Nat} {v : Value} {l : List Int} {w w' : World} (h : RU B v l w) (hB : B ≤ B') (hb : Below B w w') : RU B' v l w' := by
 obtain ⟨A, c, e, hl, hc⟩ := h
 refine ⟨A, c, e, hl, fun hp => ?_⟩
 obtain ⟨b, o, e1, e2, hh⟩ := hc hp
 exact ⟨b, o, e1, Nat.lt_of_lt_of_le e2 hB, fun k n hk => ⟨(hb.cell (p := ⟨b, o + k, none⟩) e2).trans (hh k n hk).1, (hh k n hk).2⟩⟩

set_option maxHeartbeats 8000000 in
set_option maxRecDepth 1000000 in
theorem pair_any (v : Value) (l : List Int) (i : Nat) (w : World) (h : RU w.heap.size v l w) (hi : i ≤ 1000) :
  Calls Try.prog 30 #[v, .int .i64 i] w fun e w' => ∃ a b, e = .returned (.tuple #[.int .u16 a, .int .u16 b]) ∧ (0 ≤ a ∧ a ≤ 65535) ∧ (0 ≤ b ∧ b ≤ 65535) ∧ Below w.heap.size w w' := by
 obtain ⟨A, c, rfl, hl, hc⟩ := h
 have hll : (l.length : Int) ≤ 1000000000000000 := by have h : l.length ≤ 1000000000000000 := hl; omega
 have w1 : IntKind.i64.wrap (2 * (i : Int)) = 2 * (i : Int) := IntWalk.i64_in _ (by omega)
 have w2 : IntKind.i64.wrap (2 * (i : Int) + 1) = 2 * (i : Int) + 1 := IntWalk.i64_in _ (by omega)
 by_cases hlt : l.length ≤ 2 * i + 1
 ·have hlt0 : (l.length : Int) ≤ 2 * (i : Int) + 1 := by omega
  go_enter Try.func30, Try.ntmps30
  go_wp2_with fail
  exact bodyPost_ret (results_tmp2 rfl _ _ _) rfl ⟨_, _, rfl, by omega, by omega, Below.refl _ _⟩
 ·have hlt0 : 2 * (i : Int) + 1 < (l.length : Int) := by omega
  have hlt1 : 2 * (i : Int) < (l.length : Int) := by omega
  have hi0 : (0 : Int) ≤ 2 * (i : Int) := by omega
  have hi1 : (0 : Int) ≤ 2 * (i : Int) + 1 := by omega
  obtain ⟨b, o, rfl, hb, hh⟩ := hc (by omega)
  obtain ⟨x, hx⟩ : ∃ x, l[2 * i]? = some x := ⟨_, List.getElem?_eq_getElem (by omega)⟩
  obtain ⟨y, hy⟩ : ∃ y, l[2 * i + 1]? = some y := ⟨_, List.getElem?_eq_getElem (by omega)⟩
  obtain ⟨q1, q2⟩ := hh _ _ hx
  obtain ⟨q3, q4⟩ := hh _ _ hy
  have t1 : (2 * (i : Int)).toNat = 2 * i := by omega
  have t2 : (2 * (i : Int) + 1).toNat = 2 * i + 1 := by omega
  clear hx hy hh hc hl
  go_enter Try.func30, Try.ntmps30
  go_upto_region 3 with fail
  go_quiet (fail)
  go_wp2_with fail
  exact bodyPost_ret (results_tmp2 rfl _ _ _) rfl ⟨_, _, rfl, q2, q4, below_drewN (Below.refl _ _) _⟩
section
open Go.ChangeShapes Go.WideShapes Go.ChangeAt Go.Joins
variable {H : Type} {enc : TypeId × Value → H} {W : World} {base : Nat} {sp : Nat → Bool}
theorem qcellsU16 : Try.prog.cellsOf 59 = 1 := by kernel_rfl
theorem pbU16 : 0 < Try.prog.bytesOf 59 := by decide +kernel
set_option maxRecDepth 100000 in
/-- A list of uint16 that came in. -/
theorem u16s_open {b0 : Nat} {v : Value} {d : DataW H} {p : List MemPlace} (hv : Value.okWide Try.prog W .any b0 47 v) (h : DataW.Trod enc Try.prog W base sp true 47 v d p) (hw : WB 47 d) : ∃ l : List Int, RU W.heap.size v l W := by
 obtain ⟨a, len, cap, rfl⟩ := okWide_slice Try.underlying47 hv
 obtain ⟨n, h⟩ := h
 obtain ⟨A, c, l, e, hf, hr⟩ := row_open (y := (d, p)) (α := Int) Try.underlying47 qcellsU16 (by decide) pbU16 (fun n b o => W.cell? ⟨b, o, none⟩ = some (.int .u16 n) ∧ 0 ≤ n ∧ n ≤ 65535) (fun fuel a x _ hx => by
  obtain ⟨cs, hl, hc, h2⟩ := cells_of hx
  obtain ⟨n, rfl, -, hwf⟩ := DataW.trod_int Try.underlying59 h2
  have h0 := hc 0 (by decide)
  rw [Addr.add_zero'] at h0
  have m0 : IntKind.u16.min = 0 := rfl
  have m1 : IntKind.u16.max = 65535 := rfl
  simp only [Lit.wf, m0, m1, Bool.and_eq_true, decide_eq_true_eq] at hwf
  refine ⟨n, ⟨_, h0.trans rfl⟩, fun hs => ?_⟩
  obtain ⟨b, o, s⟩ := a
  simp only at hs
  subst hs
  exact ⟨h0.trans rfl, hwf⟩) h hw
 exact ⟨l, A, c, e, hf, fun hp => by
  obtain ⟨b, o, e1, e2, hh⟩ := hr hp
  exact ⟨b, o, e1, e2, fun k n hk => by have := hh k n hk; rwa [Nat.mul_one] at this⟩⟩
end
end Go.Proofs.Ytkoacclbempmdaa

/- Lists of spans of one's own that a variable holds. -/
namespace Go.Proofs.Ytkoacclbempmdaa
open Go.RowKit

/-- Lists of one's own that a variable holds. -/
structure GS (g base : Nat) (us : List Value) (ls : List (List (Int × Int))) (W : World) : Prop where
 c : ∀ (k : Nat) (u : Value), us[k]? = some u → W.cell? ⟨g, k, none⟩ = some u
 f : ∀ k : Nat, W.frozen? ⟨g, k, none⟩ = false
 o : ∀ (k : Nat) (u : Value) (l : List (Int × Int)), us[k]? = some u → ls[k]? = some l → OwnG enc2 2 40 base u l W
 d : ∀ (j k : Nat) (u v : Value) (b : Nat), j ≠ k → us[j]? = some u → us[k]? = some v → u.ownBlock = some b → v.ownBlock ≠ some b
 gb : g < base
 gl : g < W.heap.size
 len : us.length = ls.length
section
variable {g base : Nat} {us : List Value} {ls : List (List (Int × Int))} {W W' W4 : World}
theorem GS.grown_ {bs : List Nat} (h : GS g base us ls W) (hg : GrownL bs W W') (hn : g ∉ bs) (hr : ∀ (k : Nat) (u : Value) (b : Nat), us[k]? = some u → u.ownBlock = some b → b ∉ bs) : GS g base us ls W' :=
 ⟨fun k u hu => hg.cell (h.c k u hu) hn, fun k => (World.frozen?_of_block (a := ⟨g, k, none⟩) (hg.block g h.gl hn)).trans (h.f k), fun k u l hu hl => (h.o k u l hu hl).grown hg (fun b hb => hr k u b hu hb), h.d, h.gb, Nat.lt_of_lt_of_le h.gl hg.size, h.len⟩
theorem GS.own (h : GS g base us ls W) {k : Nat} {u : Value} (hu : us[k]? = some u) {b : Nat} (hb : u.ownBlock = some b) : base ≤ b ∧ b < W.heap.size := by
 obtain ⟨l, hl⟩ : ∃ l, ls[k]? = some l := ⟨_, List.getElem?_eq_getElem (by rw [← h.len]; exact (List.getElem?_eq_some_iff.1 hu).1)⟩
 exact (h.o k u l hu hl).lt b hb
theorem GS.grown {bs : List Nat} (h : GS g base us ls W) (hg : GrownL bs W W') (hn : g ∉ bs) (hr : ∀ k ∈ bs, k < base ∨ W.heap.size ≤ k) : GS g base us ls W' :=
 h.grown_ hg hn (fun k u b hu hb hm => by have := h.own hu hb; have := hr b hm; omega)
theorem GS.below (h : GS g base us ls W) (hb : Below W.heap.size W W') : GS g base us ls W' := h.grown (GrownL.of_below (bs := []) hb) (by simp) (by simp)
theorem GS.app (h : GS g base us ls W) {k : Nat} {u v' : Value} {l : List (Int × Int)} {x : Int × Int} (hu : us[k]? = some u) (hl : ls[k]? = some l) (hg : GrownL u.ownBlock.toList W W4) (ho : OwnG enc2 2 40 base v' (l ++ [x]) W4) (ha : v'.ownBlock = u.ownBlock ∨ ∃ n, v'.ownBlock = some n ∧ W.heap.size ≤ n) :
  GS g base (us.set k v') (ls.set k (l ++ [x])) (W4.setCell ⟨g, k, none⟩ v') := by
 have hk := (List.getElem?_eq_some_iff.1 hu).1
 have hk' := (List.getElem?_eq_some_iff.1 hl).1
 have hn : g ∉ u.ownBlock.toList := fun hm => by have := (h.own hu (by simpa using hm)).1; have := h.gb; omega
 have gs : GrownL [g] W4 (W4.setCell ⟨g, k, none⟩ v') := GrownL.set _ _ _ (by simp)
 have oth : ∀ j u', j ≠ k → us[j]? = some u' → (W4.setCell ⟨g, k, none⟩ v').cell? ⟨g, j, none⟩ = some u' := fun j u' hj hu' => (World.cell?_setCell_other _ ⟨g, k, none⟩ ⟨g, j, none⟩ _ (by simp <;> omega)).trans (hg.cell (h.c j u' hu') hn)
 have dd : ∀ j u' b, j ≠ k → us[j]? = some u' → v'.ownBlock = some b → u'.ownBlock ≠ some b := fun j u' b hj hu' hb hb' => by
  rcases ha with e | ⟨n, e, hn'⟩
  ·exact h.d k j u u' b (Ne.symm hj) hu hu' (e ▸ hb) hb'
  ·rw [e] at hb; cases hb; have := (h.own hu' hb').2; omega
 refine ⟨fun j u' hj => ?_, fun j => ?_, fun j u' l' hj hl' => ?_, fun i j u1 u2 b hij h1 h2 hb => ?_, h.gb, ?_, by simp [h.len]⟩
 ·by_cases e : j = k
  ·subst e
   rw [List.getElem?_set_self hk] at hj
   cases hj
   exact World.cell?_setCell_same' _ _ _ (by rw [hg.cell (h.c j u hu) hn]; rfl)
  ·rw [List.getElem?_set_ne (Ne.symm e)] at hj
   exact oth j u' e hj
 ·exact (World.frozen?_setCell _ _ _ _).trans ((World.frozen?_of_block (a := ⟨g, j, none⟩) (hg.block g h.gl hn)).trans (h.f j))
 ·by_cases e : j = k
  ·subst e
   rw [List.getElem?_set_self hk] at hj
   rw [List.getElem?_set_self hk'] at hl'
   cases hj
   cases hl'
   exact ho.grown gs (fun b hb hm => by have := (ho.lt b hb).1; have := h.gb; simp at hm; omega)
  ·rw [List.getElem?_set_ne (Ne.symm e)] at hj hl'
   have ho' := h.o j u' l' hj hl'
   exact (ho'.grown hg (fun b hb hm => h.d k j u u' b (Ne.symm e) hu hj (by simpa using hm) hb)).grown gs (fun b hb hm => by have := (ho'.lt b hb).1; have := h.gb; simp at hm; omega)
 ·by_cases e1 : i = k
  ·subst e1
   rw [List.getElem?_set_self hk] at h1
   cases h1
   rw [List.getElem?_set_ne hij] at h2
   exact dd j u2 b (Ne.symm hij) h2 hb
  ·rw [List.getElem?_set_ne (Ne.symm e1)] at h1
   by_cases e2 : j = k
   ·subst e2
    rw [List.getElem?_set_self hk] at h2
    cases h2
    exact fun hb' => dd i u1 b e1 h1 hb' hb
   ·rw [List.getElem?_set_ne (Ne.symm e2)] at h2
    exact h.d i j u1 u2 b hij h1 h2 hb
 ·have := hg.size
  have := h.gl
  simp
  omega
theorem GS.nils (hg : g < base) (hl : g < W.heap.size) (n : Nat) (hc : ∀ k, k < n → W.cell? ⟨g, k, none⟩ = some (.slice none 0 0)) (hf : ∀ k : Nat, W.frozen? ⟨g, k, none⟩ = false) : GS g base (List.replicate n (.slice none 0 0)) (List.replicate n []) W := by
 refine ⟨fun k u hu => ?_, hf, fun k u l hu hl => ?_, fun i j u v b hij h1 h2 hb => ?_, hg, hl, by simp⟩
 ·rw [List.getElem?_replicate] at hu
  split at hu
  ·cases hu; exact hc k (by assumption)
  ·cases hu
 ·rw [List.getElem?_replicate] at hu hl
  split at hu
  ·rw [if_pos (by assumption)] at hl
   cases hu; cases hl; exact OwnG.nil _ _ _ _ _
  ·cases hu
 ·rw [List.getElem?_replicate] at h1
  split at h1
  ·cases h1; cases hb
  ·cases h1
end

/-- One of some lists that a variable holds, with a further element. -/
theorem gs_next {g k : Nat} {us : List Value} {ls : List (List (Int × Int))} {u v4 : Value} {l : List (Int × Int)} {y : Int × Int} {Wb W w4 : World} (HG : GS g Wb.heap.size us ls W) (hu : us[k]? = some u) (hl : ls[k]? = some l) (hgr : GrownL [g] Wb W)
  (ho : OwnG enc2 2 40 Wb.heap.size v4 (l ++ [y]) w4) (hg : GrownL u.ownBlock.toList W w4) (ha : v4.ownBlock = u.ownBlock ∨ ∃ n, v4.ownBlock = some n ∧ W.heap.size ≤ n) :
  GS g Wb.heap.size (us.set k v4) (ls.set k (l ++ [y])) (w4.setCell ⟨g, k, none⟩ v4) ∧ GrownL [g] Wb (w4.setCell ⟨g, k, none⟩ v4) ∧ w4.cell? ⟨g, k, none⟩ = some u ∧ w4.frozen? ⟨g, k, none⟩ = false := by
 have hlt := fun b (hb : b ∈ u.ownBlock.toList) => (HG.own hu (by simpa using hb))
 have hgb := HG.gb
 have hn4 : g ∉ u.ownBlock.toList := fun hm => by have := (hlt _ hm).1; omega
 refine ⟨HG.app hu hl hg ho ha, ?_, hg.cell (HG.c k u hu) hn4, (World.frozen?_of_block (a := ⟨g, k, none⟩) (hg.block _ HG.gl hn4)).trans (HG.f k)⟩
 exact hgr.newer ((hg.mono (bs' := g :: u.ownBlock.toList) (by simp +contextual)).trans (GrownL.set _ _ _ (by simp))) (fun b hb => (hlt b hb).1)
end Go.Proofs.Ytkoacclbempmdaa
