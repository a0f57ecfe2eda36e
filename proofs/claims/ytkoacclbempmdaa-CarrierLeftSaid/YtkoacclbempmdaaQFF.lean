/- Plain mathematics: more by its signs gives an outlet no less. -/
import Derived.Test.YtkoacclbempmdaaGZF
import Derived.Test.YtkoacclbempmdaaGZL
import Derived.Test.YtkoacclbempmdaaQFA
namespace Go.Proofs.Ytkoacclbempmdaa
open Go.RowKit

/-- If a carrier of a path is fed, its feeder is on the path. -/
theorem PathIs.feeder {ws : Wk} {i : Nat} {l : List Nat} (h : PathIs ws i l) : ∀ k ∈ l, ∀ q, (allP ws)[k]? = some q → ∀ j : Nat, FstIs (fun o : Ou => o.into) (outs ws) q.c j → j ∈ l := by
 induction h with
 | head hp hf =>
  intro k hk q hq j hj
  rw [List.mem_singleton] at hk
  subst hk
  rw [hp] at hq
  cases hq
  have := hf.unique hj
  omega
 | @step i j0 p0 l hp hf h ih =>
  intro k hk q hq j hj
  rcases List.mem_append.1 hk with hk | hk
  ·exact List.mem_append.2 (.inl (ih k hk q hq j hj))
  ·rw [List.mem_singleton] at hk
   subst hk
   rw [hp] at hq
   cases hq
   have := hf.unique hj
   obtain rfl : j0 = j := by omega
   exact List.mem_append.2 (.inl h.self_mem)
/-- The outlet of a path on a carrier. -/
theorem endE_pos {ws : Wk} (hw : WOk ws) {i : Nat} {p : Pl} (hp : (allP ws)[i]? = some p) {c : Nat} (hc : 0 < endE ws p.o.id c) : ∃ (k : Nat) (q : Pl), k ∈ pathOf ws i ∧ (allP ws)[k]? = some q ∧ q.c = c ∧ endE ws p.o.id c = q.n + 1 := by
 by_cases h : ∃ (k : Nat) (q : Pl), k ∈ pathOf ws i ∧ (allP ws)[k]? = some q ∧ q.c = c
 ·obtain ⟨k, q, hk, hq, rfl⟩ := h
  exact ⟨k, q, hk, hq, rfl, endE_at hw hp hk hq⟩
 ·rw [endE_none hw hp (fun k hk q hq e => h ⟨k, q, hk, hq, e⟩)] at hc
  omega
/-- What leads into a carrier of a path is on the path. -/
theorem endE_into {ws : Wk} (hw : WOk ws) {i m : Nat} {p q : Pl} (hp : (allP ws)[i]? = some p) (hq : (allP ws)[m]? = some q) {c : Nat} (hc : 0 < endE ws p.o.id c) (hi : q.o.into = c) : endE ws p.o.id q.c = q.n + 1 := by
 obtain ⟨k, r, hk, hr, rfl, -⟩ := endE_pos hw hp hc
 have hP := pathOf_is hw (lt_total hp)
 have ho := (outs_get hq).1
 obtain ⟨x, hx⟩ := FstIs.exists_ (fun o : Ou => o.into) (outs ws) r.c
 have hx' := hx
 rcases hx with ⟨j, o, hj, he, -, rfl⟩ | ⟨hn, -⟩
 ·have hjm : j = m := by
   obtain ⟨qj, hqj⟩ := at_total (ws := ws) (n := j) (by have := (List.getElem?_eq_some_iff.1 hj).1; rw [outs_len] at this; exact this)
   have hoj := (outs_get hqj).1
   rw [hj] at hoj
   cases hoj
   have he : qj.o.into = r.c := he
   rcases Nat.lt_trichotomy j m with h | h | h
   ·exact absurd (he.trans hi.symm) ((hw.one j m qj q hqj hq h).2 (by omega))
   ·exact h
   ·exact absurd (hi.trans he.symm) ((hw.one m j q qj hq hqj h).2 (by omega))
  subst hjm
  exact endE_at hw hp (hP.feeder k hk r hr j hx') hq
 ·exact absurd hi (hn m q.o ho)

/-- What has a sign is no less in a second water, or no more. -/
structure UpS (ws : Wk) (e : Nat → Nat) (s t : Wa) : Prop where
 r : ∀ (k c : Nat) (x y : Int), (headsN ws)[k]? = some c → s.river[k]? = some x → t.river[k]? = some y → 0 < e c → x ≤ y
 b : ∀ (i : Nat) (p : Pl) (x y : Int), (allP ws)[i]? = some p → s.boards[i]? = some x → t.boards[i]? = some y → (p.n + 1 = e p.c → x ≤ y) ∧ (p.n + 1 < e p.c → y ≤ x)
 k : ∀ (i : Nat) (p : Pl) (x y : Int), (allP ws)[i]? = some p → s.leaks[i]? = some x → t.leaks[i]? = some y → (p.n + 1 = e p.c → x ≤ y) ∧ (p.n + 1 < e p.c → y ≤ x)
 l : ∀ (i : Nat) (p : Pl) (x y : Int), (allP ws)[i]? = some p → s.losses[i]? = some x → t.losses[i]? = some y → p.n < e p.c → y ≤ x

theorem ps_mono {o : Ou} (h : OuOk o) {a b : Nat} {x y : Int} (hx : o.ps[a]? = some x) (hy : o.ps[b]? = some y) (hab : a ≤ b) : x ≤ y := by
 rcases Nat.lt_or_ge a b with h' | h'
 ·exact Int.le_of_lt (h.pm a b x y hx hy h')
 ·obtain rfl : a = b := by omega
  rw [hx] at hy
  cases hy
  exact Int.le_refl _

section
variable {ws : Wk} {e : Nat → Nat} {s t : Wa} {n : Nat} {q : Pl}
theorem UpS.loss (hw : WOk ws) (hs : WaOk ws s) (ht : WaOk ws t) (hu : UpS ws e s t) (hq : (allP ws)[n]? = some q) (he : q.n < e q.c) : t.losses.getD q.at_ 0 ≤ s.losses.getD q.at_ 0 := by
 obtain ⟨b1, k1, l1, c1, hb1, hk1, hl1, hc1, -, -, -, -, -, -, -, e1, f1⟩ := hs.at_ hw hq
 obtain ⟨b2, k2, l2, c2, hb2, hk2, hl2, hc2, -, -, -, -, -, -, -, e2, f2⟩ := ht.at_ hw hq
 rw [f1, f2]
 exact hu.l n q l1 l2 hq hl1 hl2 he
theorem UpS.cap_up (hw : WOk ws) (hs : WaOk ws s) (ht : WaOk ws t) (hu : UpS ws e s t) (hq : (allP ws)[n]? = some q) (he : q.n + 1 = e q.c) : s.cap q ≤ t.cap q := by
 obtain ⟨b1, k1, l1, c1, hb1, hk1, hl1, hc1, -, -, -, -, -, -, -, e1, f1⟩ := hs.at_ hw hq
 obtain ⟨b2, k2, l2, c2, hb2, hk2, hl2, hc2, -, -, -, -, -, -, -, e2, f2⟩ := ht.at_ hw hq
 have h1 := (hu.b n q b1 b2 hq hb1 hb2).1 he
 have h2 := (hu.k n q k1 k2 hq hk1 hk2).1 he
 have h3 := ps_mono (hw.ou hq) hc1 hc2 (by omega)
 omega
theorem UpS.cap_down (hw : WOk ws) (hs : WaOk ws s) (ht : WaOk ws t) (hu : UpS ws e s t) (hq : (allP ws)[n]? = some q) (he : q.n + 1 < e q.c) : t.cap q ≤ s.cap q := by
 obtain ⟨b1, k1, l1, c1, hb1, hk1, hl1, hc1, -, -, -, -, -, -, -, e1, f1⟩ := hs.at_ hw hq
 obtain ⟨b2, k2, l2, c2, hb2, hk2, hl2, hc2, -, -, -, -, -, -, -, e2, f2⟩ := ht.at_ hw hq
 have h1 := (hu.b n q b1 b2 hq hb1 hb2).2 he
 have h2 := (hu.k n q k1 k2 hq hk1 hk2).2 he
 have h3 := ps_mono (hw.ou hq) hc2 hc1 (by omega)
 omega
theorem thr_up {f g : FS} (h : f.t q.c ≤ g.t q.c) (hl : t.losses.getD q.at_ 0 ≤ s.losses.getD q.at_ 0) (hc : s.cap q ≤ t.cap q) : thrS s f q ≤ thrS t g q := by
 unfold thrS lostS
 omega
theorem rest_up {f g : FS} (h : f.t q.c ≤ g.t q.c) (hl : t.losses.getD q.at_ 0 ≤ s.losses.getD q.at_ 0) (hc : t.cap q ≤ s.cap q) : f.t q.c - lostS s f q - thrS s f q ≤ g.t q.c - lostS t g q - thrS t g q := by
 unfold thrS lostS
 omega
end
theorem startT_up {ws : Wk} {e : Nat → Nat} {s t : Wa} (hs : WaOk ws s) (ht : WaOk ws t) (hu : UpS ws e s t) {c : Nat} (hc : 0 < e c) : startT ws s c ≤ startT ws t c := by
 unfold startT
 cases hx : (headsN ws).idxOf? c with
 | none => exact Int.le_refl _
 | some k =>
  have hk : (headsN ws)[k]? = some c := by
   rw [List.idxOf?_eq_some_iff] at hx
   obtain ⟨h1, h2, -⟩ := hx
   rw [List.getElem?_eq_getElem h1, h2]
  have hkl := (List.getElem?_eq_some_iff.1 hk).1
  have h1 : s.river[k]? = some (s.river.getD k 0) := by
   rw [List.getD_eq_getElem?_getD, List.getElem?_eq_getElem (by rw [hs.r]; exact hkl)]
   rfl
  have h2 : t.river[k]? = some (t.river.getD k 0) := by
   rw [List.getD_eq_getElem?_getD, List.getElem?_eq_getElem (by rw [ht.r]; exact hkl)]
   rfl
  exact hu.r k c _ _ hk h1 h2 hc
theorem flow_up {ws : Wk} (hw : WOk ws) {s t : Wa} (hs : WaOk ws s) (ht : WaOk ws t) {i : Nat} {p : Pl} (hp : (allP ws)[i]? = some p) {e : Nat → Nat} (he : e = endE ws p.o.id) (hu : UpS ws e s t) :
  ∀ n, n ≤ total ws → (∀ c, 0 < e c → n < pre ws c + e c → (flowTo ws s n).t c ≤ (flowTo ws t n).t c) ∧ ∀ (j : Nat) (q : Pl), j < n → (allP ws)[j]? = some q → q.n + 1 = e q.c → (flowTo ws s n).thr.getD j 0 ≤ (flowTo ws t n).thr.getD j 0
 | 0, _ => ⟨fun c hc _ => startT_up hs ht hu hc, fun j q h => by omega⟩
 | n + 1, hn => by
  obtain ⟨ih1, ih2⟩ := flow_up hw hs ht hp he hu n (by omega)
  obtain ⟨q, hq⟩ := at_total (ws := ws) (n := n) (by omega)
  obtain ⟨-, os, h1, h2, h3⟩ := allP_inv hq
  have hB : q.n + 1 = e q.c → thrS s (flowTo ws s n) q ≤ thrS t (flowTo ws t n) q := fun hx =>
   thr_up (ih1 q.c (by omega) (by omega)) (hu.loss hw hs ht hq (by omega)) (hu.cap_up hw hs ht hq hx)
  rw [flowTo_succ s hq, flowTo_succ t hq]
  refine ⟨fun c hc hlt => ?_, fun j r hj hr hx => ?_⟩
  ·show (if (c : Int) = q.o.into then thrS s (flowTo ws s n) q else if c = q.c then (flowTo ws s n).t q.c - lostS s (flowTo ws s n) q - thrS s (flowTo ws s n) q else (flowTo ws s n).t c) ≤ (if (c : Int) = q.o.into then thrS t (flowTo ws t n) q else if c = q.c then (flowTo ws t n).t q.c - lostS t (flowTo ws t n) q - thrS t (flowTo ws t n) q else (flowTo ws t n).t c)
   by_cases hi : (c : Int) = q.o.into
   ·rw [if_pos hi, if_pos hi]
    subst he
    exact hB (endE_into hw hp hq hc hi.symm).symm
   ·rw [if_neg hi, if_neg hi]
    by_cases hcq : c = q.c
    ·subst hcq
     rw [if_pos rfl, if_pos rfl]
     exact rest_up (ih1 q.c (by omega) (by omega)) (hu.loss hw hs ht hq (by omega)) (hu.cap_down hw hs ht hq (by omega))
    ·rw [if_neg hcq, if_neg hcq]
     exact ih1 c hc (by omega)
  ·show ((flowTo ws s n).thr ++ [thrS s (flowTo ws s n) q]).getD j 0 ≤ ((flowTo ws t n).thr ++ [thrS t (flowTo ws t n) q]).getD j 0
   have hl1 := thr_len ws s n (by omega)
   have hl2 := thr_len ws t n (by omega)
   rw [List.getD_eq_getElem?_getD, List.getD_eq_getElem?_getD]
   rcases Nat.lt_or_ge j n with h | h
   ·rw [List.getElem?_append_left (by omega), List.getElem?_append_left (by omega)]
    have := ih2 j r h hr hx
    rwa [List.getD_eq_getElem?_getD, List.getD_eq_getElem?_getD] at this
   ·obtain rfl : j = n := by omega
    rw [hq] at hr
    cases hr
    rw [List.getElem?_append_right (by omega), List.getElem?_append_right (by omega), hl1, hl2, Nat.sub_self]
    exact hB hx
/-- More by its signs gives an outlet no less. -/
theorem flow_mono {ws : Wk} (hw : WOk ws) {s t : Wa} (hs : WaOk ws s) (ht : WaOk ws t) {i : Nat} {p : Pl} (hp : (allP ws)[i]? = some p) (hu : UpS ws (endE ws p.o.id) s t) : (flowF ws s).thr.getD i 0 ≤ (flowF ws t).thr.getD i 0 :=
 (flow_up hw hs ht hp rfl hu (total ws) (Nat.le_refl _)).2 i p (lt_total hp) hp (endE_at hw hp (pathOf_is hw (lt_total hp)).self_mem hp).symm
end Go.Proofs.Ytkoacclbempmdaa

/- Contracts of the laws' place and up. -/
namespace Go.Proofs.Ytkoacclbempmdaa
open Go.RowKit

/-- None of the first outlets has an ID. -/
def NoId (ws : Wk) (id : Int) (n : Nat) : Prop := ∀ (j : Nat) (o : Ou), j < n → (outs ws)[j]? = some o → o.id ≠ id
theorem NoId.succ {ws : Wk} {id : Int} {n : Nat} (h : NoId ws id n) {o : Ou} (ho : (outs ws)[n]? = some o) (hi : o.id ≠ id) : NoId ws id (n + 1) := fun j o' hj ho' => by
 rcases Nat.lt_or_ge j n with h' | h'
 ·exact h j o' h' ho'
 ·obtain rfl : j = n := by omega
  rw [ho] at ho'
  cases ho'
  exact hi
set_option maxHeartbeats 8000000 in
set_option maxRecDepth 1000000 in
theorem place_any (A : Option Addr) (c : Nat) (ws : Wk) (id r : Int) (w : World) (h : RK w.heap.size (.slice A ws.length c) ws w) (ht : total ws ≤ 100000) (hl : ws.length ≤ 100000) (hr : FstIs (fun o : Ou => o.id) (outs ws) id r) :
  Calls Try.prog 26 #[.agg #[.slice A ws.length c], .int .i64 id] w fun e w' => e = .returned (.int .i64 r) ∧ Below w.heap.size w w' := by
 have H := Lib.hid h
 have HR := Lib.hid hr
 have S0 := Lib.hid (Wd.new (w := w) (v := .slice A ws.length c) 24)
 clear h hr
 go_enter Try.func26, Try.ntmps26
 go_wp2_with fail
 go_loopw [5, 6] (fun n i wr => ∃ k : Nat, i = .int .i64 k ∧ k ≤ ws.length ∧ n = .int .i64 (pre ws k) ∧ NoId ws id (pre ws k) ∧ Wd w (.slice A ws.length c) wr) (fun _ i _ => ws.length - (intOf i).toNat)
 case atStart => exact ⟨0, rfl, by omega, by rw [pre_zero]; rfl, fun j o hj => by rw [pre_zero] at hj; omega, S0.out⟩
 case round =>
  obtain ⟨k, rfl, hk, rfl, hno, hS⟩ := hrel
  have S := Lib.hid hS
  have t0 := hS.c
  have HNO := Lib.hid hno
  clear hS hno S0
  by_cases hkl : k < ws.length
  ·have hk0 : (k : Int) < (ws.length : Int) := by omega
   obtain ⟨os, hos⟩ : ∃ os, ws[k]? = some os := ⟨_, List.getElem?_eq_getElem hkl⟩
   have HOS := Lib.hid hos
   clear hos
   go_wp2_with fail
   go_loopw [5, 7] (fun n i wy => ∃ j : Nat, i = .int .i64 j ∧ j ≤ os.length ∧ n = .int .i64 ((pre ws k + j : Nat) : Int) ∧ NoId ws id (pre ws k + j) ∧ Wd w (.slice A ws.length c) wy) (fun _ i _ => os.length - (intOf i).toNat)
   case atStart => exact ⟨0, rfl, by omega, rfl, HNO.out, S.out⟩
   case round =>
    obtain ⟨j, rfl, hj, rfl, hno, hS⟩ := hrel
    have S := Lib.hid hS
    have t0 := hS.c
    have KR := Lib.hid (H.out.up hS.siz hS.bel)
    have HNO := Lib.hid hno
    clear hS hno
    obtain ⟨b, o, hA, hbB, u, hu, A1_, c1_, hu2, hou⟩ := rk_at KR.out HOS.out
    subst hA hu2
    by_cases hjl : j < os.length
    ·have hj0 : (j : Int) < (os.length : Int) := by omega
     obtain ⟨p, hp⟩ : ∃ p, os[j]? = some p := ⟨_, List.getElem?_eq_getElem hjl⟩
     obtain ⟨b1, o1, hA1, -, hc1⟩ := ro_at hou hp
     subst hA1
     have q1 := hc1.id
     have HO := Lib.hid (outs_get (allP_get HOS.out hp)).1
     have hnl := pre_lt HOS.out hjl
     have hjm : ((pre ws k + j : Nat) : Int) ≤ 100000 := by omega
     have hjn : (j : Int) ≤ 100000 := by omega
     clear hc1 hp hnl
     by_cases hi : p.id = id
     ·have HE := Lib.hid (HR.out.at_ HNO.out HO.out hi)
      obtain ⟨n, hn⟩ : ∃ n, pre ws k + j = n := ⟨_, rfl⟩
      rw [hn] at HE hjm ⊢
      clear hn
      go_wp2_with fail
      go_ret
      exact ⟨by have := HE.out; subst this; first | rfl | trivial, S.out.bel⟩
     ·have HN2 := Lib.hid (HNO.out.succ HO.out hi)
      obtain ⟨n, hn⟩ : ∃ n, pre ws k + j = n := ⟨_, rfl⟩
      have HN := Lib.hid hn
      rw [hn] at HN2 hjm ⊢
      clear hn
      go_wp2_with fail
      go_roundw
      case rel => exact ⟨j + 1, by go_num, by omega, by rw [← Nat.add_assoc, HN.out]; go_num, by rw [← Nat.add_assoc, HN.out]; exact HN2.out, S.out⟩
      case measure => show os.length - ((j : Int) + 1).toNat < os.length - (j : Int).toNat; omega
    ·have hj0 : (os.length : Int) ≤ (j : Int) := by omega
     obtain rfl : j = os.length := by omega
     have hps := pre_succ HOS.out
     rw [← hps] at HNO ⊢
     clear hps hou
     go_wp2_with fail
     go_roundw
     case rel => exact ⟨k + 1, by go_num, by omega, rfl, HNO.out, S.out⟩
     case measure => show ws.length - ((k : Int) + 1).toNat < ws.length - (k : Int).toNat; omega
  ·have hk0 : (ws.length : Int) ≤ (k : Int) := by omega
   obtain rfl : k = ws.length := by omega
   have HE : Hid (r = -1) := Lib.hid (HR.out.none_ (fun j o ho => HNO.out j o (by have := (List.getElem?_eq_some_iff.1 ho).1; rwa [outs_len] at this) ho))
   go_wp2_with fail
   go_ret
   exact ⟨by have := HE.out; subst this; first | rfl | trivial, S.out.bel⟩

/-- Whether all numbers of a second list, times signs, are at least those of a first one. -/
def upB (g a b : List Int) : Bool := decide (∀ i, i < g.length → g.getD i 0 * a.getD i 0 ≤ g.getD i 0 * b.getD i 0)
set_option maxHeartbeats 8000000 in
set_option maxRecDepth 1000000 in
theorem up_any (gv av bv : Value) (g a b : List Int) (w : World) (hg : RR encI w.heap.size gv g w) (ha : RR encI w.heap.size av a w) (hb : RR encI w.heap.size bv b w) (hl : g.length ≤ 1000000) (h1 : a.length = g.length) (h2 : b.length = g.length)
  (bg : ∀ x ∈ g, -1 ≤ x ∧ x ≤ 1) (ba : ∀ x ∈ a, -1000000000 ≤ x ∧ x ≤ 1000000000) (bb : ∀ x ∈ b, -1000000000 ≤ x ∧ x ≤ 1000000000) :
  Calls Try.prog 34 #[gv, av, bv] w fun e w' => e = .returned (.bool (upB g a b)) ∧ Below w.heap.size w w' := by
 obtain ⟨A0, c0, rfl⟩ := hg.slice
 obtain ⟨A1, c1, rfl⟩ := ha.slice
 obtain ⟨A2, c2, rfl⟩ := hb.slice
 have HG := Lib.hid hg
 have HA := Lib.hid ha
 have HB := Lib.hid hb
 have BG := Lib.hid bg
 have BA := Lib.hid ba
 have BB := Lib.hid bb
 have hll : (g.length : Int) ≤ 1000000 := by omega
 obtain ⟨na, hna⟩ : ∃ n, a.length = n := ⟨_, rfl⟩
 obtain ⟨nb, hnb⟩ : ∃ n, b.length = n := ⟨_, rfl⟩
 have LA := Lib.hid (hna.symm.trans h1)
 have LB := Lib.hid (hnb.symm.trans h2)
 have NA := Lib.hid hna
 have NB := Lib.hid hnb
 rw [hna, hnb]
 obtain ⟨R, hR⟩ : ∃ R, upB g a b = R := ⟨_, rfl⟩
 have HRR := Lib.hid hR
 rw [hR]
 clear hg ha hb bg ba bb h1 h2 hna hnb hR
 go_enter Try.func34, Try.ntmps34
 go_wp2_with fail
 go_loopw [7] (fun k wr => ∃ i : Nat, k = .int .i64 i ∧ i ≤ g.length ∧ (∀ j, j < i → g.getD j 0 * a.getD j 0 ≤ g.getD j 0 * b.getD j 0) ∧ Below w.heap.size w wr) (fun k _ => g.length - (intOf k).toNat)
 case atStart => exact ⟨0, rfl, by omega, fun j hj => by omega, Below.refl _ _⟩
 case round =>
  obtain ⟨i, rfl, hi, hok, hb⟩ := hrel
  have HBL := Lib.hid hb
  have HOK := Lib.hid hok
  clear hok
  by_cases hil : i < g.length
  ·have hi0 : (i : Int) < (g.length : Int) := by omega
   have hia : (i : Int) < (na : Int) := by have := LA.out; omega
   have hib : (i : Int) < (nb : Int) := by have := LB.out; omega
   obtain ⟨x, hx⟩ : ∃ x, g[i]? = some x := ⟨_, List.getElem?_eq_getElem hil⟩
   obtain ⟨y, hy⟩ : ∃ y, a[i]? = some y := ⟨_, List.getElem?_eq_getElem (by rw [NA.out]; omega)⟩
   obtain ⟨z, hz⟩ : ∃ z, b[i]? = some z := ⟨_, List.getElem?_eq_getElem (by rw [NB.out]; omega)⟩
   obtain ⟨b0, o0, rfl, -, q0⟩ := (HG.out.up hb.size hb).int hx
   obtain ⟨b1, o1, rfl, -, q1⟩ := (HA.out.up hb.size hb).int hy
   obtain ⟨b2, o2, rfl, -, q2⟩ := (HB.out.up hb.size hb).int hz
   have hx0 := BG.out x (List.mem_of_getElem? hx)
   have hy0 := BA.out y (List.mem_of_getElem? hy)
   have hz0 := BB.out z (List.mem_of_getElem? hz)
   have hW1 : IntKind.i64.wrap (x * y) = x * y := IntWalk.i64_in _ (by
    rcases (by omega : x = -1 ∨ x = 0 ∨ x = 1) with rfl | rfl | rfl <;> omega)
   have hW2 : IntKind.i64.wrap (x * z) = x * z := IntWalk.i64_in _ (by
    rcases (by omega : x = -1 ∨ x = 0 ∨ x = 1) with rfl | rfl | rfl <;> omega)
   have HX : Hid (g.getD i 0 = x ∧ a.getD i 0 = y ∧ b.getD i 0 = z) := Lib.hid ⟨by rw [List.getD_eq_getElem?_getD, hx]; rfl, by rw [List.getD_eq_getElem?_getD, hy]; rfl, by rw [List.getD_eq_getElem?_getD, hz]; rfl⟩
   clear hx hy hz hb hx0 hy0 hz0
   obtain ⟨P1, hP1⟩ : ∃ P, x * y = P := ⟨_, rfl⟩
   obtain ⟨P2, hP2⟩ : ∃ P, x * z = P := ⟨_, rfl⟩
   have HP1 := Lib.hid hP1
   have HP2 := Lib.hid hP2
   rw [hP1] at hW1
   rw [hP2] at hW2
   by_cases hlt : P2 < P1
   ·have HF : Hid (R = false) := Lib.hid (by
     rw [← HRR.out]
     unfold upB
     rw [decide_eq_false_iff_not]
     intro hh
     have := hh i hil
     rw [HX.out.1, HX.out.2.1, HX.out.2.2, HP1.out, HP2.out] at this
     omega)
    go_wp2_with fail
    go_quiet (fail)
    go_wp2_with fail
    go_ret
    exact ⟨by have := HF.out; subst this; first | rfl | trivial, below_drewN HBL.out _⟩
   ·have HLE : Hid (g.getD i 0 * a.getD i 0 ≤ g.getD i 0 * b.getD i 0) := Lib.hid (by rw [HX.out.1, HX.out.2.1, HX.out.2.2, HP1.out, HP2.out]; omega)
    go_wp2_with fail
    go_quiet (fail)
    go_wp2_with fail
    go_roundw
    case rel => exact ⟨i + 1, by go_num, by omega, fun j hj => by
     rcases Nat.lt_or_ge j i with h | h
     ·exact HOK.out j h
     ·obtain rfl : j = i := by omega
      exact HLE.out, below_drewN HBL.out _⟩
    case measure => show g.length - ((i : Int) + 1).toNat < g.length - (i : Int).toNat; omega
  ·have hi0 : (g.length : Int) ≤ (i : Int) := by omega
   obtain rfl : i = g.length := by omega
   have HF : Hid (R = true) := Lib.hid (by
    rw [← HRR.out]
    unfold upB
    rw [decide_eq_true_iff]
    exact HOK.out)
   go_wp2_with fail
   go_ret
   exact ⟨by have := HF.out; subst this; first | rfl | trivial, hb⟩
end Go.Proofs.Ytkoacclbempmdaa

/- Contract of the laws' wet. -/
namespace Go.Proofs.Ytkoacclbempmdaa
open Go.RowKit

def WetPost (s : Wa) (w : World) (e : Ending) (w' : World) : Prop := ∃ b, e = .returned (.bool b) ∧ (b = true → s.river.length ≤ 100 ∧ s.boards.length ≤ 100 ∧ s.leaks.length ≤ 100 ∧ s.losses.length ≤ 100) ∧ Below w.heap.size w w'
set_option maxHeartbeats 8000000 in
set_option maxRecDepth 1000000 in
theorem wet_any (v : Value) (s : Wa) (w : World) (h : RWa w.heap.size v s w) : Calls Try.prog 19 #[v] w (WetPost s w) := by
 obtain ⟨A1, c1, A2, c2, A3, c3, A4, c4, rfl⟩ := h.form
 clear h
 have hs : (100 : Int) < (s.river.length : Int) ∨ ((s.river.length : Int) ≤ 100 ∧ (100 : Int) < (s.boards.length : Int)) ∨ ((s.river.length : Int) ≤ 100 ∧ (s.boards.length : Int) ≤ 100 ∧ (100 : Int) < (s.leaks.length : Int)) ∨ ((s.river.length : Int) ≤ 100 ∧ (s.boards.length : Int) ≤ 100 ∧ (s.leaks.length : Int) ≤ 100 ∧ (100 : Int) < (s.losses.length : Int)) ∨ ((s.river.length : Int) ≤ 100 ∧ (s.boards.length : Int) ≤ 100 ∧ (s.leaks.length : Int) ≤ 100 ∧ (s.losses.length : Int) ≤ 100) := by omega
 have HB : Hid (Below w.heap.size w (w.alloc (.cells #[.slice A1 s.river.length c1, .slice A2 s.boards.length c2, .slice A3 s.leaks.length c3, .slice A4 s.losses.length c4] 27))) := Lib.hid ((Below.refl _ _).alloc (Nat.le_refl _) _)
 rcases hs with h1 | ⟨h1, h2⟩ | ⟨h1, h2, h3⟩ | ⟨h1, h2, h3, h4⟩ | ⟨h1, h2, h3, h4⟩
 all_goals
  go_enter Try.func19, Try.ntmps19
  go_wp2_with fail
  go_ret
  first
   | exact ⟨false, rfl, (fun h => by cases h), HB.out⟩
   | exact ⟨true, rfl, (fun _ => by omega), HB.out⟩
   | exact ⟨_, rfl, (fun h => by have := of_decide_eq_true h; omega), HB.out⟩

end Go.Proofs.Ytkoacclbempmdaa
