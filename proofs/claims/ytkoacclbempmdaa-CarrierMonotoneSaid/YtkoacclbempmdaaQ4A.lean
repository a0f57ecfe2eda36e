/- The law CarrierMonotone (promise 2.13): for all works, an ID and two waters, if by Signs what has 1 is no less in the second water, and what has -1 no more, no less flows through the outlet; it returns true for every argument, and leaves them as they read.
   Conditions: none beyond the given row's own (the program at the commit in COMMIT; arguments that lie in memory as the row says). -/
import Derived.Test.YtkoacclbempmdaaGZF
import Derived.Test.YtkoacclbempmdaaGH
import Derived.Test.YtkoacclbempmdaaGZL
import Derived.Test.YtkoacclbempmdaaGZD
import Derived.Test.YtkoacclbempmdaaOO6
import Derived.Test.YtkoacclbempmdaaGJ
namespace Go.Proofs.Ytkoacclbempmdaa
open Go.RowKit

/-- If a carrier of a path is fed, its feeder is on the path. -/
theorem PathIs.feeder {ws : Wk} {i : Nat} {l : List Nat} (h : PathIs ws i l) : ∀ k ∈ l, ∀ q, (allP ws)[k]? = some q → ∀ j : Nat, FstIs (fun o : Ou => o.into) (outs ws) q.c j → j ∈ l := by
  induction h with
  | head hp hf =>
    intro k hk q hq j hj
    rw [List.mem_singleton] at hk
    subst hk
    rw [hp] at hq
    cases hq
    have := hf.unique hj
    omega
  | @step i j0 p0 l hp hf h ih =>
    intro k hk q hq j hj
    rcases List.mem_append.1 hk with hk | hk
    · exact List.mem_append.2 (.inl (ih k hk q hq j hj))
    · rw [List.mem_singleton] at hk
      subst hk
      rw [hp] at hq
      cases hq
      have := hf.unique hj
      obtain rfl : j0 = j := by omega
      exact List.mem_append.2 (.inl h.self_mem)
/-- The outlet of a path on a carrier. -/
theorem endE_pos {ws : Wk} (hw : WOk ws) {i : Nat} {p : Pl} (hp : (allP ws)[i]? = some p) {c : Nat} (hc : 0 < endE ws p.o.id c) : ∃ (k : Nat) (q : Pl), k ∈ pathOf ws i ∧ (allP ws)[k]? = some q ∧ q.c = c ∧ endE ws p.o.id c = q.n + 1 := by
  by_cases h : ∃ (k : Nat) (q : Pl), k ∈ pathOf ws i ∧ (allP ws)[k]? = some q ∧ q.c = c
  · obtain ⟨k, q, hk, hq, rfl⟩ := h
    exact ⟨k, q, hk, hq, rfl, endE_at hw hp hk hq⟩
  · rw [endE_none hw hp (fun k hk q hq e => h ⟨k, q, hk, hq, e⟩)] at hc
    omega
/-- What leads into a carrier of a path is on the path. -/
theorem endE_into {ws : Wk} (hw : WOk ws) {i m : Nat} {p q : Pl} (hp : (allP ws)[i]? = some p) (hq : (allP ws)[m]? = some q) {c : Nat} (hc : 0 < endE ws p.o.id c) (hi : q.o.into = c) : endE ws p.o.id q.c = q.n + 1 := by
  obtain ⟨k, r, hk, hr, rfl, -⟩ := endE_pos hw hp hc
  have hP := pathOf_is hw (lt_total hp)
  have ho := (outs_get hq).1
  obtain ⟨x, hx⟩ := FstIs.exists_ (fun o : Ou => o.into) (outs ws) r.c
  have hx' := hx
  rcases hx with ⟨j, o, hj, he, -, rfl⟩ | ⟨hn, -⟩
  · have hjm : j = m := by
      obtain ⟨qj, hqj⟩ := at_total (ws := ws) (n := j) (by have := (List.getElem?_eq_some_iff.1 hj).1; rw [outs_len] at this; exact this)
      have hoj := (outs_get hqj).1
      rw [hj] at hoj
      cases hoj
      have he : qj.o.into = r.c := he
      rcases Nat.lt_trichotomy j m with h | h | h
      · exact absurd (he.trans hi.symm) ((hw.one j m qj q hqj hq h).2 (by omega))
      · exact h
      · exact absurd (hi.trans he.symm) ((hw.one m j q qj hq hqj h).2 (by omega))
    subst hjm
    exact endE_at hw hp (hP.feeder k hk r hr j hx') hq
  · exact absurd hi (hn m q.o ho)

/-- What has a sign is no less in a second water, or no more. -/
structure UpS (ws : Wk) (e : Nat → Nat) (s t : Wa) : Prop where
  r : ∀ (k c : Nat) (x y : Int), (headsN ws)[k]? = some c → s.river[k]? = some x → t.river[k]? = some y → 0 < e c → x ≤ y
  b : ∀ (i : Nat) (p : Pl) (x y : Int), (allP ws)[i]? = some p → s.boards[i]? = some x → t.boards[i]? = some y → (p.n + 1 = e p.c → x ≤ y) ∧ (p.n + 1 < e p.c → y ≤ x)
  k : ∀ (i : Nat) (p : Pl) (x y : Int), (allP ws)[i]? = some p → s.leaks[i]? = some x → t.leaks[i]? = some y → (p.n + 1 = e p.c → x ≤ y) ∧ (p.n + 1 < e p.c → y ≤ x)
  l : ∀ (i : Nat) (p : Pl) (x y : Int), (allP ws)[i]? = some p → s.losses[i]? = some x → t.losses[i]? = some y → p.n < e p.c → y ≤ x

theorem ps_mono {o : Ou} (h : OuOk o) {a b : Nat} {x y : Int} (hx : o.ps[a]? = some x) (hy : o.ps[b]? = some y) (hab : a ≤ b) : x ≤ y := by
  rcases Nat.lt_or_ge a b with h' | h'
  · exact Int.le_of_lt (h.pm a b x y hx hy h')
  · obtain rfl : a = b := by omega
    rw [hx] at hy
    cases hy
    exact Int.le_refl _

section
variable {ws : Wk} {e : Nat → Nat} {s t : Wa} {n : Nat} {q : Pl}
theorem UpS.loss (hw : WOk ws) (hs : WaOk ws s) (ht : WaOk ws t) (hu : UpS ws e s t) (hq : (allP ws)[n]? = some q) (he : q.n < e q.c) : t.losses.getD q.at_ 0 ≤ s.losses.getD q.at_ 0 := by
  obtain ⟨b1, k1, l1, c1, hb1, hk1, hl1, hc1, -, -, -, -, -, -, -, e1, f1⟩ := hs.at_ hw hq
  obtain ⟨b2, k2, l2, c2, hb2, hk2, hl2, hc2, -, -, -, -, -, -, -, e2, f2⟩ := ht.at_ hw hq
  rw [f1, f2]
  exact hu.l n q l1 l2 hq hl1 hl2 he
theorem UpS.cap_up (hw : WOk ws) (hs : WaOk ws s) (ht : WaOk ws t) (hu : UpS ws e s t) (hq : (allP ws)[n]? = some q) (he : q.n + 1 = e q.c) : s.cap q ≤ t.cap q := by
  obtain ⟨b1, k1, l1, c1, hb1, hk1, hl1, hc1, -, -, -, -, -, -, -, e1, f1⟩ := hs.at_ hw hq
  obtain ⟨b2, k2, l2, c2, hb2, hk2, hl2, hc2, -, -, -, -, -, -, -, e2, f2⟩ := ht.at_ hw hq
  have h1 := (hu.b n q b1 b2 hq hb1 hb2).1 he
  have h2 := (hu.k n q k1 k2 hq hk1 hk2).1 he
  have h3 := ps_mono (hw.ou hq) hc1 hc2 (by omega)
  omega
theorem UpS.cap_down (hw : WOk ws) (hs : WaOk ws s) (ht : WaOk ws t) (hu : UpS ws e s t) (hq : (allP ws)[n]? = some q) (he : q.n + 1 < e q.c) : t.cap q ≤ s.cap q := by
  obtain ⟨b1, k1, l1, c1, hb1, hk1, hl1, hc1, -, -, -, -, -, -, -, e1, f1⟩ := hs.at_ hw hq
  obtain ⟨b2, k2, l2, c2, hb2, hk2, hl2, hc2, -, -, -, -, -, -, -, e2, f2⟩ := ht.at_ hw hq
  have h1 := (hu.b n q b1 b2 hq hb1 hb2).2 he
  have h2 := (hu.k n q k1 k2 hq hk1 hk2).2 he
  have h3 := ps_mono (hw.ou hq) hc2 hc1 (by omega)
  omega
theorem thr_up {f g : FS} (h : f.t q.c ≤ g.t q.c) (hl : t.losses.getD q.at_ 0 ≤ s.losses.getD q.at_ 0) (hc : s.cap q ≤ t.cap q) : thrS s f q ≤ thrS t g q := by
  unfold thrS lostS
  omega
theorem rest_up {f g : FS} (h : f.t q.c ≤ g.t q.c) (hl : t.losses.getD q.at_ 0 ≤ s.losses.getD q.at_ 0) (hc : t.cap q ≤ s.cap q) : f.t q.c - lostS s f q - thrS s f q ≤ g.t q.c - lostS t g q - thrS t g q := by
  unfold thrS lostS
  omega
end
theorem startT_up {ws : Wk} {e : Nat → Nat} {s t : Wa} (hs : WaOk ws s) (ht : WaOk ws t) (hu : UpS ws e s t) {c : Nat} (hc : 0 < e c) : startT ws s c ≤ startT ws t c := by
  unfold startT
  cases hx : (headsN ws).idxOf? c with
  | none => exact Int.le_refl _
  | some k =>
    have hk : (headsN ws)[k]? = some c := by
      rw [List.idxOf?_eq_some_iff] at hx
      obtain ⟨h1, h2, -⟩ := hx
      rw [List.getElem?_eq_getElem h1, h2]
    have hkl := (List.getElem?_eq_some_iff.1 hk).1
    have h1 : s.river[k]? = some (s.river.getD k 0) := by
      rw [List.getD_eq_getElem?_getD, List.getElem?_eq_getElem (by rw [hs.r]; exact hkl)]
      rfl
    have h2 : t.river[k]? = some (t.river.getD k 0) := by
      rw [List.getD_eq_getElem?_getD, List.getElem?_eq_getElem (by rw [ht.r]; exact hkl)]
      rfl
    exact hu.r k c _ _ hk h1 h2 hc
theorem flow_up {ws : Wk} (hw : WOk ws) {s t : Wa} (hs : WaOk ws s) (ht : WaOk ws t) {i : Nat} {p : Pl} (hp : (allP ws)[i]? = some p) {e : Nat → Nat} (he : e = endE ws p.o.id) (hu : UpS ws e s t) :
    ∀ n, n ≤ total ws → (∀ c, 0 < e c → n < pre ws c + e c → (flowTo ws s n).t c ≤ (flowTo ws t n).t c) ∧ ∀ (j : Nat) (q : Pl), j < n → (allP ws)[j]? = some q → q.n + 1 = e q.c → (flowTo ws s n).thr.getD j 0 ≤ (flowTo ws t n).thr.getD j 0
  | 0, _ => ⟨fun c hc _ => startT_up hs ht hu hc, fun j q h => by omega⟩
  | n + 1, hn => by
    obtain ⟨ih1, ih2⟩ := flow_up hw hs ht hp he hu n (by omega)
    obtain ⟨q, hq⟩ := at_total (ws := ws) (n := n) (by omega)
    obtain ⟨-, os, h1, h2, h3⟩ := allP_inv hq
    have hB : q.n + 1 = e q.c → thrS s (flowTo ws s n) q ≤ thrS t (flowTo ws t n) q := fun hx =>
      thr_up (ih1 q.c (by omega) (by omega)) (hu.loss hw hs ht hq (by omega)) (hu.cap_up hw hs ht hq hx)
    rw [flowTo_succ s hq, flowTo_succ t hq]
    refine ⟨fun c hc hlt => ?_, fun j r hj hr hx => ?_⟩
    · show (if (c : Int) = q.o.into then thrS s (flowTo ws s n) q else if c = q.c then (flowTo ws s n).t q.c - lostS s (flowTo ws s n) q - thrS s (flowTo ws s n) q else (flowTo ws s n).t c) ≤ (if (c : Int) = q.o.into then thrS t (flowTo ws t n) q else if c = q.c then (flowTo ws t n).t q.c - lostS t (flowTo ws t n) q - thrS t (flowTo ws t n) q else (flowTo ws t n).t c)
      by_cases hi : (c : Int) = q.o.into
      · rw [if_pos hi, if_pos hi]
        subst he
        exact hB (endE_into hw hp hq hc hi.symm).symm
      · rw [if_neg hi, if_neg hi]
        by_cases hcq : c = q.c
        · subst hcq
          rw [if_pos rfl, if_pos rfl]
          exact rest_up (ih1 q.c (by omega) (by omega)) (hu.loss hw hs ht hq (by omega)) (hu.cap_down hw hs ht hq (by omega))
        · rw [if_neg hcq, if_neg hcq]
          exact ih1 c hc (by omega)
    · show ((flowTo ws s n).thr ++ [thrS s (flowTo ws s n) q]).getD j 0 ≤ ((flowTo ws t n).thr ++ [thrS t (flowTo ws t n) q]).getD j 0
      have hl1 := thr_len ws s n (by omega)
      have hl2 := thr_len ws t n (by omega)
      rw [List.getD_eq_getElem?_getD, List.getD_eq_getElem?_getD]
      rcases Nat.lt_or_ge j n with h | h
      · rw [List.getElem?_append_left (by omega), List.getElem?_append_left (by omega)]
        have := ih2 j r h hr hx
        rwa [List.getD_eq_getElem?_getD, List.getD_eq_getElem?_getD] at this
      · obtain rfl : j = n := by omega
        rw [hq] at hr
        cases hr
        rw [List.getElem?_append_right (by omega), List.getElem?_append_right (by omega), hl1, hl2, Nat.sub_self]
        exact hB hx
/-- More by its signs gives an outlet no less. -/
theorem flow_mono {ws : Wk} (hw : WOk ws) {s t : Wa} (hs : WaOk ws s) (ht : WaOk ws t) {i : Nat} {p : Pl} (hp : (allP ws)[i]? = some p) (hu : UpS ws (endE ws p.o.id) s t) : (flowF ws s).thr.getD i 0 ≤ (flowF ws t).thr.getD i 0 :=
  (flow_up hw hs ht hp rfl hu (total ws) (Nat.le_refl _)).2 i p (lt_total hp) hp (endE_at hw hp (pathOf_is hw (lt_total hp)).self_mem hp).symm
end Go.Proofs.Ytkoacclbempmdaa

/- A carrier, an outlet, in memory; a number behind a list. -/
namespace Go.Proofs.Ytkoacclbempmdaa
open Go.RowKit
theorem rk_at {B n c k : Nat} {A : Option Addr} {ws : Wk} {os : List Ou} {w : World} (h : RK B (.slice A n c) ws w) (hos : ws[k]? = some os) : ∃ b o, A = some ⟨b, o, none⟩ ∧ b < B ∧ ∃ u, w.cell? ⟨b, o + k, none⟩ = some u ∧ ∃ A1 c1, u = .slice A1 os.length c1 ∧ RO B u os w := by
  obtain ⟨A0, c0, e0, -, hx⟩ := h
  have hk := (List.getElem?_eq_some_iff.1 hos).1
  simp only [Value.slice.injEq] at e0
  obtain ⟨rfl, -, -⟩ := e0
  obtain ⟨b, o, e1, e2, e3⟩ := hx (by omega)
  obtain ⟨u, hu, hr⟩ := e3 k os hos
  obtain ⟨a, cc, e⟩ := hr.slice
  exact ⟨b, o, e1, e2, u, hu, a, cc, e, hr⟩
theorem ro_at {B n c j : Nat} {A : Option Addr} {os : List Ou} {p : Ou} {w : World} (h : RO B (.slice A n c) os w) (hp : os[j]? = some p) : ∃ b o, A = some ⟨b, o, none⟩ ∧ b < B ∧ OuAt B b (o + j * 7) p w := by
  obtain ⟨A0, c0, e0, -, hx⟩ := h
  have hj := (List.getElem?_eq_some_iff.1 hp).1
  simp only [Value.slice.injEq] at e0
  obtain ⟨rfl, -, -⟩ := e0
  obtain ⟨b, o, e1, e2, e3⟩ := hx (by omega)
  exact ⟨b, o, e1, e2, e3 j p hp⟩
theorem own_snoc {W : World} {base n : Nat} {v : Value} {l : List Int} {y : Int} (h : W.ownsRow base 3 1 v (n + 1) (l.flatMap encI ++ [.int .i64 y])) (hn : l.length = n) : OwnG encI 1 3 base v (l ++ [y]) W := by
  unfold OwnG
  rw [List.flatMap_append, List.length_append, hn]
  exact h
theorem new_set (W : World) (a : Addr) (v x : Value) (t : TypeId) (i : Nat) (u : Value) (hi : [x][i]? = some u) : ((W.setCell a v).alloc (.cells #[x] t)).cell? ((⟨W.heap.size, 0, none⟩ : Addr).add i) = some u := by
  have := one_news (W.setCell a v) x t i u hi
  rwa [show (W.setCell a v).heap.size = W.heap.size by simp] at this

end Go.Proofs.Ytkoacclbempmdaa

/- Contracts of the laws' place and up. -/
namespace Go.Proofs.Ytkoacclbempmdaa
open Go.RowKit

/-- None of the first outlets has an ID. -/
def NoId (ws : Wk) (id : Int) (n : Nat) : Prop := ∀ (j : Nat) (o : Ou), j < n → (outs ws)[j]? = some o → o.id ≠ id
theorem NoId.succ {ws : Wk} {id : Int} {n : Nat} (h : NoId ws id n) {o : Ou} (ho : (outs ws)[n]? = some o) (hi : o.id ≠ id) : NoId ws id (n + 1) := fun j o' hj ho' => by
  rcases Nat.lt_or_ge j n with h' | h'
  · exact h j o' h' ho'
  · obtain rfl : j = n := by omega
    rw [ho] at ho'
    cases ho'
    exact hi
set_option maxHeartbeats 8000000 in
set_option maxRecDepth 1000000 in
theorem place_any (A : Option Addr) (c : Nat) (ws : Wk) (id r : Int) (w : World) (h : RK w.heap.size (.slice A ws.length c) ws w) (ht : total ws ≤ 100000) (hl : ws.length ≤ 100000) (hr : FstIs (fun o : Ou => o.id) (outs ws) id r) :
    Calls Try.prog 26 #[.agg #[.slice A ws.length c], .int .i64 id] w fun e w' => e = .returned (.int .i64 r) ∧ Below w.heap.size w w' := by
  have H := Lib.hid h
  have HR := Lib.hid hr
  have S0 := Lib.hid (Wd.new (w := w) (v := .slice A ws.length c) 24)
  clear h hr
  go_enter Try.func26, Try.ntmps26
  go_wp2_with fail
  go_loopw [5, 6] (fun n i wr => ∃ k : Nat, i = .int .i64 k ∧ k ≤ ws.length ∧ n = .int .i64 (pre ws k) ∧ NoId ws id (pre ws k) ∧ Wd w (.slice A ws.length c) wr) (fun _ i _ => ws.length - (intOf i).toNat)
  case atStart => exact ⟨0, rfl, by omega, by rw [pre_zero]; rfl, fun j o hj => by rw [pre_zero] at hj; omega, S0.out⟩
  case round =>
    obtain ⟨k, rfl, hk, rfl, hno, hS⟩ := hrel
    have S := Lib.hid hS
    have t0 := hS.c
    have HNO := Lib.hid hno
    clear hS hno S0
    by_cases hkl : k < ws.length
    · have hk0 : (k : Int) < (ws.length : Int) := by omega
      obtain ⟨os, hos⟩ : ∃ os, ws[k]? = some os := ⟨_, List.getElem?_eq_getElem hkl⟩
      have HOS := Lib.hid hos
      clear hos
      go_wp2_with fail
      go_loopw [5, 7] (fun n i wy => ∃ j : Nat, i = .int .i64 j ∧ j ≤ os.length ∧ n = .int .i64 ((pre ws k + j : Nat) : Int) ∧ NoId ws id (pre ws k + j) ∧ Wd w (.slice A ws.length c) wy) (fun _ i _ => os.length - (intOf i).toNat)
      case atStart => exact ⟨0, rfl, by omega, rfl, HNO.out, S.out⟩
      case round =>
        obtain ⟨j, rfl, hj, rfl, hno, hS⟩ := hrel
        have S := Lib.hid hS
        have t0 := hS.c
        have KR := Lib.hid (H.out.up hS.siz hS.bel)
        have HNO := Lib.hid hno
        clear hS hno
        obtain ⟨b, o, hA, hbB, u, hu, A1_, c1_, hu2, hou⟩ := rk_at KR.out HOS.out
        subst hA hu2
        by_cases hjl : j < os.length
        · have hj0 : (j : Int) < (os.length : Int) := by omega
          obtain ⟨p, hp⟩ : ∃ p, os[j]? = some p := ⟨_, List.getElem?_eq_getElem hjl⟩
          obtain ⟨b1, o1, hA1, -, hc1⟩ := ro_at hou hp
          subst hA1
          have q1 := hc1.id
          have HO := Lib.hid (outs_get (allP_get HOS.out hp)).1
          have hnl := pre_lt HOS.out hjl
          have hjm : ((pre ws k + j : Nat) : Int) ≤ 100000 := by omega
          have hjn : (j : Int) ≤ 100000 := by omega
          clear hc1 hp hnl
          by_cases hi : p.id = id
          · have HE := Lib.hid (HR.out.at_ HNO.out HO.out hi)
            obtain ⟨n, hn⟩ : ∃ n, pre ws k + j = n := ⟨_, rfl⟩
            rw [hn] at HE hjm ⊢
            clear hn
            go_wp2_with fail
            go_ret
            exact ⟨by have := HE.out; subst this; first | rfl | trivial, S.out.bel⟩
          · have HN2 := Lib.hid (HNO.out.succ HO.out hi)
            obtain ⟨n, hn⟩ : ∃ n, pre ws k + j = n := ⟨_, rfl⟩
            have HN := Lib.hid hn
            rw [hn] at HN2 hjm ⊢
            clear hn
            go_wp2_with fail
            go_roundw
            case rel => exact ⟨j + 1, by go_num, by omega, by rw [← Nat.add_assoc, HN.out]; go_num, by rw [← Nat.add_assoc, HN.out]; exact HN2.out, S.out⟩
            case measure => show os.length - ((j : Int) + 1).toNat < os.length - (j : Int).toNat; omega
        · have hj0 : (os.length : Int) ≤ (j : Int) := by omega
          obtain rfl : j = os.length := by omega
          have hps := pre_succ HOS.out
          rw [← hps] at HNO ⊢
          clear hps hou
          go_wp2_with fail
          go_roundw
          case rel => exact ⟨k + 1, by go_num, by omega, rfl, HNO.out, S.out⟩
          case measure => show ws.length - ((k : Int) + 1).toNat < ws.length - (k : Int).toNat; omega
    · have hk0 : (ws.length : Int) ≤ (k : Int) := by omega
      obtain rfl : k = ws.length := by omega
      have HE : Hid (r = -1) := Lib.hid (HR.out.none_ (fun j o ho => HNO.out j o (by have := (List.getElem?_eq_some_iff.1 ho).1; rwa [outs_len] at this) ho))
      go_wp2_with fail
      go_ret
      exact ⟨by have := HE.out; subst this; first | rfl | trivial, S.out.bel⟩

/-- Whether all numbers of a second list, times signs, are at least those of a first one. -/
def upB (g a b : List Int) : Bool := decide (∀ i, i < g.length → g.getD i 0 * a.getD i 0 ≤ g.getD i 0 * b.getD i 0)
set_option maxHeartbeats 8000000 in
set_option maxRecDepth 1000000 in
theorem up_any (gv av bv : Value) (g a b : List Int) (w : World) (hg : RR encI w.heap.size gv g w) (ha : RR encI w.heap.size av a w) (hb : RR encI w.heap.size bv b w) (hl : g.length ≤ 1000000) (h1 : a.length = g.length) (h2 : b.length = g.length)
    (bg : ∀ x ∈ g, -1 ≤ x ∧ x ≤ 1) (ba : ∀ x ∈ a, -1000000000 ≤ x ∧ x ≤ 1000000000) (bb : ∀ x ∈ b, -1000000000 ≤ x ∧ x ≤ 1000000000) :
    Calls Try.prog 34 #[gv, av, bv] w fun e w' => e = .returned (.bool (upB g a b)) ∧ Below w.heap.size w w' := by
  obtain ⟨A0, c0, rfl⟩ := hg.slice
  obtain ⟨A1, c1, rfl⟩ := ha.slice
  obtain ⟨A2, c2, rfl⟩ := hb.slice
  have HG := Lib.hid hg
  have HA := Lib.hid ha
  have HB := Lib.hid hb
  have BG := Lib.hid bg
  have BA := Lib.hid ba
  have BB := Lib.hid bb
  have hll : (g.length : Int) ≤ 1000000 := by omega
  obtain ⟨na, hna⟩ : ∃ n, a.length = n := ⟨_, rfl⟩
  obtain ⟨nb, hnb⟩ : ∃ n, b.length = n := ⟨_, rfl⟩
  have LA := Lib.hid (hna.symm.trans h1)
  have LB := Lib.hid (hnb.symm.trans h2)
  have NA := Lib.hid hna
  have NB := Lib.hid hnb
  rw [hna, hnb]
  obtain ⟨R, hR⟩ : ∃ R, upB g a b = R := ⟨_, rfl⟩
  have HRR := Lib.hid hR
  rw [hR]
  clear hg ha hb bg ba bb h1 h2 hna hnb hR
  go_enter Try.func34, Try.ntmps34
  go_wp2_with fail
  go_loopw [7] (fun k wr => ∃ i : Nat, k = .int .i64 i ∧ i ≤ g.length ∧ (∀ j, j < i → g.getD j 0 * a.getD j 0 ≤ g.getD j 0 * b.getD j 0) ∧ Below w.heap.size w wr) (fun k _ => g.length - (intOf k).toNat)
  case atStart => exact ⟨0, rfl, by omega, fun j hj => by omega, Below.refl _ _⟩
  case round =>
    obtain ⟨i, rfl, hi, hok, hb⟩ := hrel
    have HBL := Lib.hid hb
    have HOK := Lib.hid hok
    clear hok
    by_cases hil : i < g.length
    · have hi0 : (i : Int) < (g.length : Int) := by omega
      have hia : (i : Int) < (na : Int) := by have := LA.out; omega
      have hib : (i : Int) < (nb : Int) := by have := LB.out; omega
      obtain ⟨x, hx⟩ : ∃ x, g[i]? = some x := ⟨_, List.getElem?_eq_getElem hil⟩
      obtain ⟨y, hy⟩ : ∃ y, a[i]? = some y := ⟨_, List.getElem?_eq_getElem (by rw [NA.out]; omega)⟩
      obtain ⟨z, hz⟩ : ∃ z, b[i]? = some z := ⟨_, List.getElem?_eq_getElem (by rw [NB.out]; omega)⟩
      obtain ⟨b0, o0, rfl, -, q0⟩ := (HG.out.up hb.size hb).int hx
      obtain ⟨b1, o1, rfl, -, q1⟩ := (HA.out.up hb.size hb).int hy
      obtain ⟨b2, o2, rfl, -, q2⟩ := (HB.out.up hb.size hb).int hz
      have hx0 := BG.out x (List.mem_of_getElem? hx)
      have hy0 := BA.out y (List.mem_of_getElem? hy)
      have hz0 := BB.out z (List.mem_of_getElem? hz)
      have hW1 : IntKind.i64.wrap (x * y) = x * y := IntWalk.i64_in _ (by
        rcases (by omega : x = -1 ∨ x = 0 ∨ x = 1) with rfl | rfl | rfl <;> omega)
      have hW2 : IntKind.i64.wrap (x * z) = x * z := IntWalk.i64_in _ (by
        rcases (by omega : x = -1 ∨ x = 0 ∨ x = 1) with rfl | rfl | rfl <;> omega)
      have HX : Hid (g.getD i 0 = x ∧ a.getD i 0 = y ∧ b.getD i 0 = z) := Lib.hid ⟨by rw [List.getD_eq_getElem?_getD, hx]; rfl, by rw [List.getD_eq_getElem?_getD, hy]; rfl, by rw [List.getD_eq_getElem?_getD, hz]; rfl⟩
      clear hx hy hz hb hx0 hy0 hz0
      obtain ⟨P1, hP1⟩ : ∃ P, x * y = P := ⟨_, rfl⟩
      obtain ⟨P2, hP2⟩ : ∃ P, x * z = P := ⟨_, rfl⟩
      have HP1 := Lib.hid hP1
      have HP2 := Lib.hid hP2
      rw [hP1] at hW1
      rw [hP2] at hW2
      by_cases hlt : P2 < P1
      · have HF : Hid (R = false) := Lib.hid (by
          rw [← HRR.out]
          unfold upB
          rw [decide_eq_false_iff_not]
          intro hh
          have := hh i hil
          rw [HX.out.1, HX.out.2.1, HX.out.2.2, HP1.out, HP2.out] at this
          omega)
        go_wp2_with fail
        go_quiet (fail)
        go_wp2_with fail
        go_ret
        exact ⟨by have := HF.out; subst this; first | rfl | trivial, below_drewN HBL.out _⟩
      · have HLE : Hid (g.getD i 0 * a.getD i 0 ≤ g.getD i 0 * b.getD i 0) := Lib.hid (by rw [HX.out.1, HX.out.2.1, HX.out.2.2, HP1.out, HP2.out]; omega)
        go_wp2_with fail
        go_quiet (fail)
        go_wp2_with fail
        go_roundw
        case rel => exact ⟨i + 1, by go_num, by omega, fun j hj => by
          rcases Nat.lt_or_ge j i with h | h
          · exact HOK.out j h
          · obtain rfl : j = i := by omega
            exact HLE.out, below_drewN HBL.out _⟩
        case measure => show g.length - ((i : Int) + 1).toNat < g.length - (i : Int).toNat; omega
    · have hi0 : (g.length : Int) ≤ (i : Int) := by omega
      obtain rfl : i = g.length := by omega
      have HF : Hid (R = true) := Lib.hid (by
        rw [← HRR.out]
        unfold upB
        rw [decide_eq_true_iff]
        exact HOK.out)
      go_wp2_with fail
      go_ret
      exact ⟨by have := HF.out; subst this; first | rfl | trivial, hb⟩
end Go.Proofs.Ytkoacclbempmdaa

/- Contract of Path. -/
namespace Go.Proofs.Ytkoacclbempmdaa
open Go.RowKit

theorem id_wf {ws : Wk} (hw : WOk ws) {n : Nat} {p : Pl} (hp : (allP ws)[n]? = some p) : (Lit.int .i64 p.o.id).wf = true := by
  have := hw.ou hp
  have h3 := this.i0
  have h4 := this.i1
  have m0 : IntKind.i64.min = -9223372036854775808 := rfl
  have m1 : IntKind.i64.max = 9223372036854775807 := rfl
  simp only [Lit.wf, m0, m1, Bool.and_eq_true, decide_eq_true_eq]
  omega
theorem fst_id {ws : Wk} {id : Int} {n : Nat} {p : Pl} (hf : FstIs (fun o : Ou => o.id) (outs ws) id n) (hp : (allP ws)[n]? = some p) : p.o.id = id := by
  rcases hf with ⟨k, o, ho, he, _, hk⟩ | ⟨_, h⟩
  · obtain rfl : n = k := by omega
    rw [(outs_get hp).1] at ho
    cases ho
    exact he
  · omega
theorem byId_all {ws : Wk} (hw : WOk ws) {n : Nat} {p : Pl} (hp : (allP ws)[n]? = some p) : byIdS ws (allP ws) p.o.id = pathV ws n := by
  have := byIdS_at hw (lt_total hp) hp
  rwa [List.take_of_length_le (by rw [allP_len]; exact Nat.le_refl _)] at this
def PathPost (d : Int) (M : List Int) (w : World) (e : Ending) (w' : World) : Prop := ∃ u, e = .returned (.tuple #[u, .int .i64 d]) ∧ OwnG encI 1 3 w.heap.size u M w' ∧ Below w.heap.size w w'
set_option maxHeartbeats 8000000 in
set_option maxRecDepth 1000000 in
theorem Path_any (v : Value) (ws : Wk) (id d : Int) (M : List Int) (w : World) (h : RK w.heap.size v ws w) (ht : total ws ≤ 100000) (hc : PathR ws id d M) :
    Calls Try.prog 50 #[.agg #[v], .int .i64 id] w (PathPost d M w) := by
  obtain ⟨A, c, rfl, -⟩ := (show ∃ A c, v = .slice A ws.length c ∧ True by obtain ⟨A, c, e, _⟩ := h; exact ⟨A, c, e, trivial⟩)
  obtain ⟨i, hk, hc⟩ := hc
  have C1 := Lib.hid fun W (S : Wd w (.slice A ws.length c) W) => checkOutlet_any (.slice A ws.length c) ws id i d W (h.up S.siz S.bel) ht hk
  have C2 := Lib.hid fun (hw : WOk ws) W (S : Wd w (.slice A ws.length c) W) => paths_any A c ws W (h.up S.siz S.bel) hw
  have S0 := Lib.hid (Wd.new (w := w) (v := .slice A ws.length c) 24)
  have HK := Lib.hid hk
  have HC := Lib.hid hc
  clear h hk hc
  go_enter Try.func50, Try.ntmps50
  go_wp2_with fail
  refine (C1.out _ S0.out).mono ?_
  rintro e w1 ⟨rfl, b1⟩
  have S := Lib.hid (S0.out.below b1)
  clear b1
  by_cases h0 : d = 0
  rotate_left
  · have hdb : (d != 0) = true := by rw [bne_iff_ne]; exact h0
    have HM : Hid (M = []) := Lib.hid (by rcases HC.out with ⟨_, h⟩ | ⟨h, _⟩; exact h; exact absurd h h0)
    go_wp2_with fail
    refine bodyPost_ret (results_tmp2 rfl _ _ _) rfl ?_
    exact ⟨_, rfl, by rw [HM.out]; exact OwnG.nil _ _ _ _ _, S.out.bel⟩
  subst h0
  obtain ⟨n, p, rfl, hf, hp⟩ := HK.out.at_
  have hw := HK.out.chk.1
  have HW := Lib.hid hw
  obtain rfl := fst_id hf hp
  have HWF := Lib.hid (id_wf hw hp)
  have HM : Hid (M = byIdS ws (allP ws) p.o.id) := Lib.hid (by
    rcases HC.out with ⟨h, _⟩ | ⟨_, k, L, hk, hL, rfl⟩
    · exact absurd rfl h
    · obtain rfl : n = k := by omega
      rw [byId_all hw hp]
      unfold pathV
      rw [pathOf_eq hw hL])
  have x0 := S.out.c
  clear hw hf hp HC
  go_wp2_with fail
  refine (C2.out HW.out _ S.out).mono ?_
  rintro e w2 ⟨rfl, hpm, b2⟩
  have S2 := Lib.hid (S.out.below b2)
  obtain ⟨u, hu, hrun⟩ := hpm.look p.o.id HWF.out
  have HU := Lib.hid hu
  have hrun2 := hrun w2 rfl
  clear b2 x0 hpm hrun hu
  go_wp2_with fail
  refine bodyPost_ret (results_tmp2 rfl _ _ _) rfl ?_
  exact ⟨u, rfl, by rw [HM.out]; exact HU.out.low (by have := S.out.siz; omega), S2.out.bel⟩
end Go.Proofs.Ytkoacclbempmdaa

/- Contract of Signs. -/
namespace Go.Proofs.Ytkoacclbempmdaa
open Go.RowKit

def SignsR (ws : Wk) (id d : Int) (w : World) (e : Ending) (w' : World) : Prop := ∃ u1 u2 u3, e = .returned (.tuple #[u1, u2, u3, .int .i64 d]) ∧ OwnG encI 1 3 w.heap.size u1 (okL d (sigH ws id)) w' ∧ OwnG encI 1 3 w.heap.size u2 (okL d (sigO ws id)) w' ∧ OwnG encI 1 3 w.heap.size u3 (okL d (sigR ws id)) w' ∧ Below w.heap.size w w'
set_option maxHeartbeats 8000000 in
set_option maxRecDepth 1000000 in
theorem Signs_any (v : Value) (ws : Wk) (id i d : Int) (w : World) (h : RK w.heap.size v ws w) (ht : total ws ≤ 100000) (hk : KnownIs ws id i d) :
    Calls Try.prog 33 #[.agg #[v], .int .i64 id] w (SignsR ws id d w) := by
  obtain ⟨A, c, rfl, -⟩ := (show ∃ A c, v = .slice A ws.length c ∧ True by obtain ⟨A, c, e, _⟩ := h; exact ⟨A, c, e, trivial⟩)
  have C1 := Lib.hid fun W (S : Wd w (.slice A ws.length c) W) => checkOutlet_any (.slice A ws.length c) ws id i d W (h.up S.siz S.bel) ht hk
  have C2 := Lib.hid fun (hw : WOk ws) (hid : (Lit.int .i64 id).wf = true) W (S : Wd w (.slice A ws.length c) W) => signsOf_any A c ws id W (h.up S.siz S.bel) hw hid
  have S0 := Lib.hid (Wd.new (w := w) (v := .slice A ws.length c) 24)
  have HK := Lib.hid hk
  clear h hk
  go_enter Try.func33, Try.ntmps33
  go_wp2_with fail
  refine (C1.out _ S0.out).mono ?_
  rintro e w1 ⟨rfl, b1⟩
  have S := Lib.hid (S0.out.below b1)
  clear b1
  by_cases h0 : d = 0
  rotate_left
  · have hdb : (d != 0) = true := by rw [bne_iff_ne]; exact h0
    have H0 := Lib.hid h0
    go_wp2_with fail
    refine bodyPost_ret (v := .tuple #[.slice none 0 0, .slice none 0 0, .slice none 0 0, .int .i64 d]) (by simp [results, Try.results33, go_sem]) rfl ?_
    exact ⟨_, _, _, rfl, by rw [okL_ne H0.out]; exact OwnG.nil _ _ _ _ _, by rw [okL_ne H0.out]; exact OwnG.nil _ _ _ _ _, by rw [okL_ne H0.out]; exact OwnG.nil _ _ _ _ _, S.out.bel⟩
  subst h0
  obtain ⟨n, p, rfl, hf, hp⟩ := HK.out.at_
  have hw := HK.out.chk.1
  have hpid := fst_id hf hp
  have HW := Lib.hid hw
  have HWF : Hid ((Lit.int .i64 id).wf = true) := Lib.hid (by rw [← hpid]; exact id_wf hw hp)
  have x0 := S.out.c
  clear hw hf hp hpid
  go_wp2_with fail
  refine (C2.out HW.out HWF.out _ S.out).mono ?_
  rintro e w2 ⟨v1, v2, v3, rfl, o1, o2, o3, b2⟩
  have S2 := Lib.hid (S.out.below b2)
  obtain ⟨A1, c1, rfl, -⟩ := o1.form
  obtain ⟨A2, c2, rfl, -⟩ := o2.form
  obtain ⟨A3, c3, rfl, -⟩ := o3.form
  obtain ⟨l1, hl1⟩ : ∃ l, sigH ws id = l := ⟨_, rfl⟩
  obtain ⟨l2, hl2⟩ : ∃ l, sigO ws id = l := ⟨_, rfl⟩
  obtain ⟨l3, hl3⟩ : ∃ l, sigR ws id = l := ⟨_, rfl⟩
  have HL := Lib.hid (And.intro hl1 (And.intro hl2 hl3))
  rw [hl1] at o1 ⊢
  rw [hl2] at o2 ⊢
  rw [hl3] at o3 ⊢
  obtain ⟨W3, hW3⟩ : ∃ W3, w2.alloc (.cells #[.slice A1 l1.length c1, .slice A2 l2.length c2, .slice A3 l3.length c3] 138) = W3 := ⟨_, rfl⟩
  have b3 : Below w2.heap.size w2 W3 := by rw [← hW3]; exact (Below.refl _ _).alloc (Nat.le_refl _) _
  have hws : w.heap.size ≤ w1.heap.size := S.out.siz
  have O1 := Lib.hid ((o1.below b3).low hws)
  have O2 := Lib.hid ((o2.below b3).low hws)
  have O3 := Lib.hid ((o3.below b3).low hws)
  have S3 := Lib.hid (S2.out.below b3)
  have Y : Hid (W3.cell? ⟨w2.heap.size, 0, none⟩ = some (.slice A1 l1.length c1) ∧ W3.cell? ⟨w2.heap.size, 1, none⟩ = some (.slice A2 l2.length c2) ∧ W3.cell? ⟨w2.heap.size, 2, none⟩ = some (.slice A3 l3.length c3)) := Lib.hid (by rw [← hW3]; exact ⟨by simp [go_sem], by simp [go_sem], by simp [go_sem]⟩)
  have HW3 := Lib.hid hW3
  clear o1 o2 o3 b2 b3 hW3 hl1 hl2 hl3 x0 hws
  go_upto_region 5 with fail
  rw [HW3.out]
  obtain ⟨y0, y1, y2⟩ := Y.out
  go_quiet (fail)
  go_wp2_with fail
  refine bodyPost_ret (v := .tuple #[.slice A1 l1.length c1, .slice A2 l2.length c2, .slice A3 l3.length c3, .int .i64 0]) (by simp [results, Try.results33, go_sem]) rfl ?_
  exact ⟨_, _, _, rfl, by rw [okL_zero, HL.out.1]; exact O1.out.below (below_drewN (Below.refl _ _) _), by rw [okL_zero, HL.out.2.1]; exact O2.out.below (below_drewN (Below.refl _ _) _), by rw [okL_zero, HL.out.2.2]; exact O3.out.below (below_drewN (Below.refl _ _) _), below_drewN S3.out.bel _⟩

end Go.Proofs.Ytkoacclbempmdaa

/- Contract of the laws' wet. -/
namespace Go.Proofs.Ytkoacclbempmdaa
open Go.RowKit

def WetPost (s : Wa) (w : World) (e : Ending) (w' : World) : Prop := ∃ b, e = .returned (.bool b) ∧ (b = true → s.river.length ≤ 100 ∧ s.boards.length ≤ 100 ∧ s.leaks.length ≤ 100 ∧ s.losses.length ≤ 100) ∧ Below w.heap.size w w'
set_option maxHeartbeats 8000000 in
set_option maxRecDepth 1000000 in
theorem wet_any (v : Value) (s : Wa) (w : World) (h : RWa w.heap.size v s w) : Calls Try.prog 19 #[v] w (WetPost s w) := by
  obtain ⟨A1, c1, A2, c2, A3, c3, A4, c4, rfl⟩ := h.form
  clear h
  have hs : (100 : Int) < (s.river.length : Int) ∨ ((s.river.length : Int) ≤ 100 ∧ (100 : Int) < (s.boards.length : Int)) ∨ ((s.river.length : Int) ≤ 100 ∧ (s.boards.length : Int) ≤ 100 ∧ (100 : Int) < (s.leaks.length : Int)) ∨ ((s.river.length : Int) ≤ 100 ∧ (s.boards.length : Int) ≤ 100 ∧ (s.leaks.length : Int) ≤ 100 ∧ (100 : Int) < (s.losses.length : Int)) ∨ ((s.river.length : Int) ≤ 100 ∧ (s.boards.length : Int) ≤ 100 ∧ (s.leaks.length : Int) ≤ 100 ∧ (s.losses.length : Int) ≤ 100) := by omega
  have HB : Hid (Below w.heap.size w (w.alloc (.cells #[.slice A1 s.river.length c1, .slice A2 s.boards.length c2, .slice A3 s.leaks.length c3, .slice A4 s.losses.length c4] 27))) := Lib.hid ((Below.refl _ _).alloc (Nat.le_refl _) _)
  rcases hs with h1 | ⟨h1, h2⟩ | ⟨h1, h2, h3⟩ | ⟨h1, h2, h3, h4⟩ | ⟨h1, h2, h3, h4⟩
  all_goals
    go_enter Try.func19, Try.ntmps19
    go_wp2_with fail
    go_ret
    first
      | exact ⟨false, rfl, (fun h => by cases h), HB.out⟩
      | exact ⟨true, rfl, (fun _ => by omega), HB.out⟩
      | exact ⟨_, rfl, (fun h => by have := of_decide_eq_true h; omega), HB.out⟩

end Go.Proofs.Ytkoacclbempmdaa

/- Plain mathematics: what the law CarrierMonotone asks of signs is that more by them gives no less. -/
namespace Go.Proofs.Ytkoacclbempmdaa
open Go.RowKit

theorem upB_at {g a b : List Int} (h : upB g a b = true) {i : Nat} {x y z : Int} (hx : g[i]? = some x) (hy : a[i]? = some y) (hz : b[i]? = some z) : x * y ≤ x * z := by
  unfold upB at h
  rw [decide_eq_true_iff] at h
  have := h i (List.getElem?_eq_some_iff.1 hx).1
  rwa [List.getD_eq_getElem?_getD, List.getD_eq_getElem?_getD, List.getD_eq_getElem?_getD, hx, hy, hz] at this
theorem sgO_pos {e : Nat → Nat} {p : Pl} (h : p.n + 1 = e p.c) : sgO e p = 1 := by unfold sgO; rw [if_pos (by omega)]
theorem sgO_neg {e : Nat → Nat} {p : Pl} (h : p.n + 1 < e p.c) : sgO e p = -1 := by unfold sgO; rw [if_neg (by omega), if_pos (by omega)]
theorem sgR_neg {e : Nat → Nat} {p : Pl} (h : p.n < e p.c) : sgR e p = -1 := by unfold sgR; rw [if_pos (by omega)]
theorem sgO_at {ws : Wk} {id : Int} {i : Nat} {p : Pl} (h : (allP ws)[i]? = some p) : (sigO ws id)[i]? = some (sgO (endE ws id) p) := by unfold sigO; rw [List.getElem?_map, h]; rfl
theorem sgR_at {ws : Wk} {id : Int} {i : Nat} {p : Pl} (h : (allP ws)[i]? = some p) : (sigR ws id)[i]? = some (sgR (endE ws id) p) := by unfold sigR; rw [List.getElem?_map, h]; rfl
theorem up_UpS {ws : Wk} {id : Int} {s t : Wa} (h1 : upB (sigH ws id) s.river t.river = true) (h2 : upB (sigO ws id) s.boards t.boards = true) (h3 : upB (sigO ws id) s.leaks t.leaks = true) (h4 : upB (sigR ws id) s.losses t.losses = true) : UpS ws (endE ws id) s t where
  r k c x y hc hx hy he := by
    have := upB_at h1 (i := k) (x := 1) (by unfold sigH; rw [List.getElem?_map, hc]; simp only [Option.map_some]; unfold sgH; congr 1; omega) hx hy
    omega
  b i p x y hp hx hy := ⟨fun he => by
    have := upB_at h2 (sgO_at hp) hx hy
    rw [sgO_pos he] at this
    omega, fun he => by
    have := upB_at h2 (sgO_at hp) hx hy
    rw [sgO_neg he] at this
    omega⟩
  k i p x y hp hx hy := ⟨fun he => by
    have := upB_at h3 (sgO_at hp) hx hy
    rw [sgO_pos he] at this
    omega, fun he => by
    have := upB_at h3 (sgO_at hp) hx hy
    rw [sgO_neg he] at this
    omega⟩
  l i p x y hp hx hy he := by
    have := upB_at h4 (sgR_at hp) hx hy
    rw [sgR_neg he] at this
    omega
theorem mono_up {ws : Wk} {id : Int} {s t : Wa} (hw : WOk ws) (hs : WaOk ws s) (ht : WaOk ws t) {n : Nat} {p : Pl} (hf : FstIs (fun o : Ou => o.id) (outs ws) id n) (hp : (allP ws)[n]? = some p) (h1 : upB (sigH ws id) s.river t.river = true) (h2 : upB (sigO ws id) s.boards t.boards = true) (h3 : upB (sigO ws id) s.leaks t.leaks = true) (h4 : upB (sigR ws id) s.losses t.losses = true) :
    (flowF ws s).thr.getD n 0 ≤ (flowF ws t).thr.getD n 0 := by
  obtain rfl := fst_id hf hp
  exact flow_mono hw hs ht hp (up_UpS h1 h2 h3 h4)
/-- Bounds of signs and of water. -/
theorem sigH_b (ws : Wk) (id : Int) : ∀ x ∈ sigH ws id, -1 ≤ x ∧ x ≤ 1 := fun x hx => by
  unfold sigH at hx
  obtain ⟨c, -, rfl⟩ := List.mem_map.1 hx
  unfold sgH
  omega
theorem sigO_b (ws : Wk) (id : Int) : ∀ x ∈ sigO ws id, -1 ≤ x ∧ x ≤ 1 := fun x hx => by
  unfold sigO at hx
  obtain ⟨c, -, rfl⟩ := List.mem_map.1 hx
  unfold sgO
  split
  · omega
  · split <;> omega
theorem sigR_b (ws : Wk) (id : Int) : ∀ x ∈ sigR ws id, -1 ≤ x ∧ x ≤ 1 := fun x hx => by
  unfold sigR at hx
  obtain ⟨c, -, rfl⟩ := List.mem_map.1 hx
  unfold sgR
  split <;> omega
theorem WaOk.bs {ws : Wk} {s : Wa} (hw : WOk ws) (h : WaOk ws s) : (∀ x ∈ s.river, -1000000000 ≤ x ∧ x ≤ 1000000000) ∧ (∀ x ∈ s.boards, -1000000000 ≤ x ∧ x ≤ 1000000000) ∧ (∀ x ∈ s.leaks, -1000000000 ≤ x ∧ x ≤ 1000000000) ∧ ∀ x ∈ s.losses, -1000000000 ≤ x ∧ x ≤ 1000000000 := by
  refine ⟨fun x hx => by have := h.rr x hx; omega, fun x hx => ?_, fun x hx => ?_, fun x hx => ?_⟩
  all_goals
    obtain ⟨i, hi⟩ := List.mem_iff_getElem?.1 hx
    have hil := (List.getElem?_eq_some_iff.1 hi).1
    obtain ⟨p, hp⟩ := at_total (ws := ws) (n := i) (by have := h.b; have := h.k; have := h.l; omega)
    have o := hw.ou hp
  · have := h.ob i p x hp hi
    have := o.pu
    omega
  · have := h.ok i p x hp hi
    have := o.k0
    have := o.k1
    omega
  · have := h.ol i p x hp hi
    have := o.s0
    have := o.s1
    omega
end Go.Proofs.Ytkoacclbempmdaa

/- The law CarrierMonotone, by its walk. -/
namespace Go.Proofs.Ytkoacclbempmdaa
open Go.RowKit

/-- Works and two waters in the function's first three blocks. -/
structure WWW (w : World) (v a b c d e f g h : Value) (W : World) : Prop where
  wk : W.cell? ⟨w.heap.size, 0, none⟩ = some v
  r : W.cell? ⟨w.heap.size + 1, 0, none⟩ = some a
  b : W.cell? ⟨w.heap.size + 1, 1, none⟩ = some b
  k : W.cell? ⟨w.heap.size + 1, 2, none⟩ = some c
  l : W.cell? ⟨w.heap.size + 1, 3, none⟩ = some d
  r2 : W.cell? ⟨w.heap.size + 1 + 1, 0, none⟩ = some e
  b2 : W.cell? ⟨w.heap.size + 1 + 1, 1, none⟩ = some f
  k2 : W.cell? ⟨w.heap.size + 1 + 1, 2, none⟩ = some g
  l2 : W.cell? ⟨w.heap.size + 1 + 1, 3, none⟩ = some h
  bel : Below w.heap.size w W
theorem WWW.new (w : World) (v a b c d e f g h : Value) : WWW w v a b c d e f g h (((w.alloc (.cells #[v] 24)).alloc (.cells #[a, b, c, d] 27)).alloc (.cells #[e, f, g, h] 27)) :=
  ⟨by simp [go_sem], by simp [go_sem], by simp [go_sem], by simp [go_sem], by simp [go_sem], by simp [go_sem], by simp [go_sem], by simp [go_sem], by simp [go_sem], (((Below.refl _ _).alloc (Nat.le_refl _) _).alloc (by simp) _).alloc (by simp; omega) _⟩
theorem WWW.below {w W W' : World} {v a b c d e f g h : Value} (k : WWW w v a b c d e f g h W) (hb : Below W.heap.size W W') : WWW w v a b c d e f g h W' :=
  ⟨BelS.c hb k.wk, BelS.c hb k.r, BelS.c hb k.b, BelS.c hb k.k, BelS.c hb k.l, BelS.c hb k.r2, BelS.c hb k.b2, BelS.c hb k.k2, BelS.c hb k.l2, k.bel.trans (hb.mono k.bel.size)⟩

set_option maxHeartbeats 16000000 in
set_option maxRecDepth 1000000 in
theorem monotone_law (A : Option Addr) (c : Nat) (wv wu : Value) (ws : Wk) (id : Int) (s t : Wa) (w : World) (h : RK w.heap.size (.slice A ws.length c) ws w) (hs : RWa w.heap.size wv s w) (ht : RWa w.heap.size wu t w) :
    Calls Try.prog 5 #[.agg #[.slice A ws.length c], .int .i64 id, wv, wu] w fun e w' => e = .returned (.bool true) ∧ Below w.heap.size w w' := by
  obtain ⟨A1, c1, A2, c2, A3, c3, A4, c4, rfl⟩ := hs.form
  obtain ⟨B1, d1, B2, d2, B3, d3, B4, d4, rfl⟩ := ht.form
  have H := Lib.hid h
  have HS := Lib.hid hs
  have HU := Lib.hid ht
  have S0 := Lib.hid (WWW.new w (.slice A ws.length c) (.slice A1 s.river.length c1) (.slice A2 s.boards.length c2) (.slice A3 s.leaks.length c3) (.slice A4 s.losses.length c4) (.slice B1 t.river.length d1) (.slice B2 t.boards.length d2) (.slice B3 t.leaks.length d3) (.slice B4 t.losses.length d4))
  clear h hs ht
  go_enter Try.func5, Try.ntmps5
  go_wp2_with fail
  refine (few_any A ws.length c ws _ (H.out.up S0.out.bel.size S0.out.bel)).mono ?_
  rintro e w1 ⟨b, rfl, hfew, b1⟩
  have S1 := Lib.hid (S0.out.below b1)
  have HFEW := Lib.hid hfew
  clear hfew b1 S0
  cases b
  · go_wp2_with fail
    refine (sanity_any _).mono ?_
    rintro e w2 ⟨rfl, b2⟩
    have S2 := Lib.hid (S1.out.below b2)
    clear b2
    go_wp2_with fail
    go_ret
    exact ⟨rfl, S2.out.bel⟩
  have HT : Hid (total ws ≤ 90 ∧ ws.length ≤ 30) := Lib.hid (by have := HFEW.out (by trivial); have h1 := this.1; have h2 := this.2.1; omega)
  clear HFEW
  have x1 := S1.out.r
  have x2 := S1.out.b
  have x3 := S1.out.k
  have x4 := S1.out.l
  go_wp2_with fail
  refine (wet_any _ s _ (HS.out.up S1.out.bel.size S1.out.bel)).mono ?_
  rintro e w2 ⟨b, rfl, -, b2⟩
  have S2 := Lib.hid (S1.out.below b2)
  clear b2 x1 x2 x3 x4 S1
  cases b
  · go_wp2_with fail
    refine (sanity_any _).mono ?_
    rintro e w3 ⟨rfl, b2⟩
    have S3 := Lib.hid (S2.out.below b2)
    clear b2
    go_wp2_with fail
    go_ret
    exact ⟨rfl, S3.out.bel⟩
  have x1 := S2.out.r2
  have x2 := S2.out.b2
  have x3 := S2.out.k2
  have x4 := S2.out.l2
  go_wp2_with fail
  refine (wet_any _ t _ (HU.out.up S2.out.bel.size S2.out.bel)).mono ?_
  rintro e w3 ⟨b, rfl, -, b2⟩
  have S3 := Lib.hid (S2.out.below b2)
  clear b2 x1 x2 x3 x4 S2
  cases b
  · go_wp2_with fail
    refine (sanity_any _).mono ?_
    rintro e w4 ⟨rfl, b2⟩
    have S4 := Lib.hid (S3.out.below b2)
    clear b2
    go_wp2_with fail
    go_ret
    exact ⟨rfl, S4.out.bel⟩
  obtain ⟨ds, hds⟩ := WatIs.exists_ ws s
  obtain ⟨dt, hdt⟩ := WatIs.exists_ ws t
  have HDS := Lib.hid hds
  have HDT := Lib.hid hdt
  clear hds hdt
  have x0 := S3.out.wk
  have x1 := S3.out.r
  have x2 := S3.out.b
  have x3 := S3.out.k
  have x4 := S3.out.l
  go_wp2_with fail
  refine (CheckWater_any _ _ ws s ds _ (H.out.up S3.out.bel.size S3.out.bel) (by have := HT.out; omega) (HS.out.up S3.out.bel.size S3.out.bel) HDS.out).mono ?_
  rintro e w4 ⟨rfl, b2⟩
  have S4 := Lib.hid (S3.out.below b2)
  clear b2 x0 x1 x2 x3 x4 S3
  by_cases hd0 : ds = 0
  rotate_left
  · have hdb : (ds != 0) = true := by rw [bne_iff_ne]; exact hd0
    go_wp2_with fail
    refine (sanity_any _).mono ?_
    rintro e w5 ⟨rfl, b2⟩
    have S5 := Lib.hid (S4.out.below b2)
    clear b2
    go_wp2_with fail
    go_ret
    exact ⟨rfl, S5.out.bel⟩
  subst hd0
  have x0 := S4.out.wk
  have x1 := S4.out.r2
  have x2 := S4.out.b2
  have x3 := S4.out.k2
  have x4 := S4.out.l2
  go_wp2_with fail
  refine (CheckWater_any _ _ ws t dt _ (H.out.up S4.out.bel.size S4.out.bel) (by have := HT.out; omega) (HU.out.up S4.out.bel.size S4.out.bel) HDT.out).mono ?_
  rintro e w5 ⟨rfl, b2⟩
  have S5 := Lib.hid (S4.out.below b2)
  clear b2 x0 x1 x2 x3 x4 S4
  by_cases hd0 : dt = 0
  rotate_left
  · have hdb : (dt != 0) = true := by rw [bne_iff_ne]; exact hd0
    go_wp2_with fail
    refine (sanity_any _).mono ?_
    rintro e w6 ⟨rfl, b2⟩
    have S6 := Lib.hid (S5.out.below b2)
    clear b2
    go_wp2_with fail
    go_ret
    exact ⟨rfl, S6.out.bel⟩
  subst hd0
  obtain ⟨i, d, hk⟩ := KnownIs.exists_ ws id
  have HK := Lib.hid hk
  clear hk
  have x0 := S5.out.wk
  go_wp2_with fail
  refine (Signs_any (.slice A ws.length c) ws id i d _ (H.out.up S5.out.bel.size S5.out.bel) (by have := HT.out; omega) HK.out).mono ?_
  rintro e w6 ⟨u1, u2, u3, rfl, o1, o2, o3, b2⟩
  have S6 := Lib.hid (S5.out.below b2)
  clear b2 x0 S5
  by_cases hd0 : d = 0
  rotate_left
  · have hdb : (d != 0) = true := by rw [bne_iff_ne]; exact hd0
    clear o1 o2 o3
    go_wp2_with fail
    refine (sanity_any _).mono ?_
    rintro e w7 ⟨rfl, b2⟩
    have S7 := Lib.hid (S6.out.below b2)
    clear b2
    go_wp2_with fail
    go_ret
    exact ⟨rfl, S7.out.bel⟩
  subst hd0
  rw [okL_zero] at o1 o2 o3
  obtain ⟨n, p, rfl, hf, hp⟩ := HK.out.at_
  obtain ⟨hw, hws⟩ := HDS.out.ok
  obtain ⟨-, hwt⟩ := HDT.out.ok
  have HM := Lib.hid (mono_up hw hws hwt hf hp)
  have HF := Lib.hid hf
  have HP := Lib.hid hp
  have HW := Lib.hid hw
  have HOS := Lib.hid hws
  have HOT := Lib.hid hwt
  have e1 : (sigH ws id).length = s.river.length := by unfold sigH; rw [List.length_map, hws.r]
  have e2 : (sigO ws id).length = s.boards.length := by unfold sigO; rw [List.length_map, allP_len, hws.b]
  have e3 : (sigR ws id).length = s.losses.length := by unfold sigR; rw [List.length_map, allP_len, hws.l]
  have E1 := Lib.hid e1
  have E2_ := Lib.hid e2
  have E3 := Lib.hid e3
  obtain ⟨U1, k1, rfl, -⟩ := o1.form
  obtain ⟨U2, k2, rfl, -⟩ := o2.form
  obtain ⟨U3, k3, rfl, -⟩ := o3.form
  have R1 := Lib.hid (o1.rr EI (by have := hws.r; have := headsL_len hw; unfold headsL at this; rw [List.length_map] at this; rw [e1]; show s.river.length ≤ 1000000000000000; omega))
  have R2 := Lib.hid (o2.rr EI (by have := hws.b; have := hw.tot; rw [e2]; show s.boards.length ≤ 1000000000000000; omega))
  have R3 := Lib.hid (o3.rr EI (by have := hws.l; have := hw.tot; rw [e3]; show s.losses.length ≤ 1000000000000000; omega))
  rw [e1] at R1 ⊢
  rw [e2] at R2 ⊢
  rw [e3] at R3 ⊢
  clear o1 o2 o3 hf hp hw hws hwt e1 e2 e3
  have x1 := S6.out.r
  have x2 := S6.out.b
  have x3 := S6.out.k
  have x4 := S6.out.l
  have y1 := S6.out.r2
  have y2 := S6.out.b2
  have y3 := S6.out.k2
  have y4 := S6.out.l2
  go_upto_region 8 with fail
  go_cut [13] (fun m wx => ∃ b : Bool, m = .bool b ∧ (b = true → (flowF ws s).thr.getD n 0 ≤ (flowF ws t).thr.getD n 0) ∧ WWW w (.slice A ws.length c) (.slice A1 s.river.length c1) (.slice A2 s.boards.length c2) (.slice A3 s.leaks.length c3) (.slice A4 s.losses.length c4) (.slice B1 t.river.length d1) (.slice B2 t.boards.length d2) (.slice B3 t.leaks.length d3) (.slice B4 t.losses.length d4) wx)
  case first =>
    have BS := Lib.hid (HOS.out.bs HW.out)
    have BT := Lib.hid (HOT.out.bs HW.out)
    have BB := Lib.hid (Below.refl w6.heap.size w6)
    go_wp2_with fail
    refine (up_any _ _ _ (sigH ws id) s.river t.river _ (R1.out.up BB.out.size BB.out) (HS.out.parts.1.up S6.out.bel.size S6.out.bel) (HU.out.parts.1.up S6.out.bel.size S6.out.bel) (by have h1 := E1.out; have h2 := HOS.out.r; have h3 := HOS.out.b; have h4 := HOS.out.l; have h5 := headsL_len HW.out; unfold headsL at h5; rw [List.length_map] at h5; have h6 := HW.out.tot; omega) (by have h1 := E1.out; have h2 := HOS.out.r; have h3 := HOS.out.r; omega) (by have h1 := E1.out; have h2 := HOT.out.r; have h3 := HOS.out.r; omega) (sigH_b ws id) BS.out.1 BT.out.1).mono ?_
    rintro e w71 ⟨rfl, b2⟩
    have S71 := Lib.hid (S6.out.below b2)
    replace BB : Hid (Below w6.heap.size w6 w71) := Lib.hid (BB.out.trans (b2.mono BB.out.size))
    clear b2 x1 x2 x3 x4 y1 y2 y3 y4
    have x1 := S71.out.r
    have x2 := S71.out.b
    have x3 := S71.out.k
    have x4 := S71.out.l
    have y1 := S71.out.r2
    have y2 := S71.out.b2
    have y3 := S71.out.k2
    have y4 := S71.out.l2
    obtain ⟨q1, hq1⟩ : ∃ q, upB (sigH ws id) s.river t.river = q := ⟨_, rfl⟩
    have HQ1 := Lib.hid hq1
    rw [hq1]
    clear hq1
    cases q1
    · go_wp2_with fail
      go_meet
      case rel => exact ⟨false, rfl, (fun h => by cases h), S71.out⟩
    go_wp2_with fail
    refine (up_any _ _ _ (sigO ws id) s.boards t.boards _ (R2.out.up BB.out.size BB.out) (HS.out.parts.2.1.up S71.out.bel.size S71.out.bel) (HU.out.parts.2.1.up S71.out.bel.size S71.out.bel) (by have h1 := E2_.out; have h2 := HOS.out.r; have h3 := HOS.out.b; have h4 := HOS.out.l; have h5 := headsL_len HW.out; unfold headsL at h5; rw [List.length_map] at h5; have h6 := HW.out.tot; omega) (by have h1 := E2_.out; have h2 := HOS.out.b; have h3 := HOS.out.b; omega) (by have h1 := E2_.out; have h2 := HOT.out.b; have h3 := HOS.out.b; omega) (sigO_b ws id) BS.out.2.1 BT.out.2.1).mono ?_
    rintro e w72 ⟨rfl, b2⟩
    have S72 := Lib.hid (S71.out.below b2)
    replace BB : Hid (Below w6.heap.size w6 w72) := Lib.hid (BB.out.trans (b2.mono BB.out.size))
    clear b2 x1 x2 x3 x4 y1 y2 y3 y4
    have x1 := S72.out.r
    have x2 := S72.out.b
    have x3 := S72.out.k
    have x4 := S72.out.l
    have y1 := S72.out.r2
    have y2 := S72.out.b2
    have y3 := S72.out.k2
    have y4 := S72.out.l2
    obtain ⟨q2, hq2⟩ : ∃ q, upB (sigO ws id) s.boards t.boards = q := ⟨_, rfl⟩
    have HQ2 := Lib.hid hq2
    rw [hq2]
    clear hq2
    cases q2
    · go_wp2_with fail
      go_meet
      case rel => exact ⟨false, rfl, (fun h => by cases h), S72.out⟩
    go_wp2_with fail
    refine (up_any _ _ _ (sigO ws id) s.leaks t.leaks _ (R2.out.up BB.out.size BB.out) (HS.out.parts.2.2.1.up S72.out.bel.size S72.out.bel) (HU.out.parts.2.2.1.up S72.out.bel.size S72.out.bel) (by have h1 := E2_.out; have h2 := HOS.out.r; have h3 := HOS.out.b; have h4 := HOS.out.l; have h5 := headsL_len HW.out; unfold headsL at h5; rw [List.length_map] at h5; have h6 := HW.out.tot; omega) (by have h1 := E2_.out; have h2 := HOS.out.k; have h3 := HOS.out.b; omega) (by have h1 := E2_.out; have h2 := HOT.out.k; have h3 := HOS.out.b; omega) (sigO_b ws id) BS.out.2.2.1 BT.out.2.2.1).mono ?_
    rintro e w73 ⟨rfl, b2⟩
    have S73 := Lib.hid (S72.out.below b2)
    replace BB : Hid (Below w6.heap.size w6 w73) := Lib.hid (BB.out.trans (b2.mono BB.out.size))
    clear b2 x1 x2 x3 x4 y1 y2 y3 y4
    have x1 := S73.out.r
    have x2 := S73.out.b
    have x3 := S73.out.k
    have x4 := S73.out.l
    have y1 := S73.out.r2
    have y2 := S73.out.b2
    have y3 := S73.out.k2
    have y4 := S73.out.l2
    obtain ⟨q3, hq3⟩ : ∃ q, upB (sigO ws id) s.leaks t.leaks = q := ⟨_, rfl⟩
    have HQ3 := Lib.hid hq3
    rw [hq3]
    clear hq3
    cases q3
    · go_wp2_with fail
      go_meet
      case rel => exact ⟨false, rfl, (fun h => by cases h), S73.out⟩
    go_wp2_with fail
    refine (up_any _ _ _ (sigR ws id) s.losses t.losses _ (R3.out.up BB.out.size BB.out) (HS.out.parts.2.2.2.up S73.out.bel.size S73.out.bel) (HU.out.parts.2.2.2.up S73.out.bel.size S73.out.bel) (by have h1 := E3.out; have h2 := HOS.out.r; have h3 := HOS.out.b; have h4 := HOS.out.l; have h5 := headsL_len HW.out; unfold headsL at h5; rw [List.length_map] at h5; have h6 := HW.out.tot; omega) (by have h1 := E3.out; have h2 := HOS.out.l; have h3 := HOS.out.l; omega) (by have h1 := E3.out; have h2 := HOT.out.l; have h3 := HOS.out.l; omega) (sigR_b ws id) BS.out.2.2.2 BT.out.2.2.2).mono ?_
    rintro e w74 ⟨rfl, b2⟩
    have S74 := Lib.hid (S73.out.below b2)
    replace BB : Hid (Below w6.heap.size w6 w74) := Lib.hid (BB.out.trans (b2.mono BB.out.size))
    clear b2 x1 x2 x3 x4 y1 y2 y3 y4
    have x1 := S74.out.r
    have x2 := S74.out.b
    have x3 := S74.out.k
    have x4 := S74.out.l
    have y1 := S74.out.r2
    have y2 := S74.out.b2
    have y3 := S74.out.k2
    have y4 := S74.out.l2
    obtain ⟨q4, hq4⟩ : ∃ q, upB (sigR ws id) s.losses t.losses = q := ⟨_, rfl⟩
    have HQ4 := Lib.hid hq4
    rw [hq4]
    clear hq4
    cases q4
    · go_wp2_with fail
      go_meet
      case rel => exact ⟨false, rfl, (fun h => by cases h), S74.out⟩
    go_wp2_with fail
    go_meet
    case rel => exact ⟨true, rfl, fun _ => HM.out HQ1.out HQ2.out HQ3.out HQ4.out, S74.out⟩
  case rest =>
    obtain ⟨m, rfl, hm, hS⟩ := hcut
    have S7 := Lib.hid hS
    have HMM := Lib.hid hm
    clear hS hm x1 x2 x3 x4 y1 y2 y3 y4 S6 R1 R2 R3 E1 E2_ E3 HM
    have x0 := S7.out.wk
    have x1 := S7.out.r
    have x2 := S7.out.b
    have x3 := S7.out.k
    have x4 := S7.out.l
    go_wp2_with fail
    refine (Flow_any _ _ ws s 0 _ (H.out.up S7.out.bel.size S7.out.bel) (by have := HT.out; omega) (HS.out.up S7.out.bel.size S7.out.bel) HDS.out).mono ?_
    rintro e w8 ⟨uf, rfl, hof, b2⟩
    have S8 := Lib.hid (S7.out.below b2)
    have OF := Lib.hid hof
    clear b2 hof x0 x1 x2 x3 x4 S7
    have x0 := S8.out.wk
    have x1 := S8.out.r2
    have x2 := S8.out.b2
    have x3 := S8.out.k2
    have x4 := S8.out.l2
    go_wp2_with fail
    refine (Flow_any _ _ ws t 0 _ (H.out.up S8.out.bel.size S8.out.bel) (by have := HT.out; omega) (HU.out.up S8.out.bel.size S8.out.bel) HDT.out).mono ?_
    rintro e w9 ⟨ug, rfl, hog, b2⟩
    have S9 := Lib.hid (S8.out.below b2)
    have OF := Lib.hid (OF.out.below b2)
    have OG := Lib.hid hog
    clear b2 hog x0 x1 x2 x3 x4 S8
    have x0 := S9.out.wk
    go_wp2_with fail
    refine (place_any A c ws id n _ (H.out.up S9.out.bel.size S9.out.bel) (by have := HT.out; omega) (by have := HT.out; omega) HF.out).mono ?_
    rintro e w10 ⟨rfl, b2⟩
    have S10 := Lib.hid (S9.out.below b2)
    have OF := Lib.hid (OF.out.below b2)
    have OG := Lib.hid (OG.out.below b2)
    clear b2 x0 S9
    rw [okL_zero] at OF OG
    have hlf : (flowF ws s).thr.length = total ws := thr_len ws s _ (Nat.le_refl _)
    have hlg : (flowF ws t).thr.length = total ws := thr_len ws t _ (Nat.le_refl _)
    obtain ⟨Uf, cf, rfl, -⟩ := OF.out.form
    obtain ⟨Ug, cg, rfl, -⟩ := OG.out.form
    rw [hlf] at OF ⊢
    rw [hlg] at OG ⊢
    have hnt := lt_total HP.out
    have hn0 : (n : Int) < (total ws : Int) := by omega
    have hn1 : (0 : Int) ≤ (n : Int) := by omega
    have OFR := Lib.hid (OF.out.rr EI (by rw [hlf]; have := HT.out; show total ws ≤ 1000000000000000; omega))
    have OGR := Lib.hid (OG.out.rr EI (by rw [hlg]; have := HT.out; show total ws ≤ 1000000000000000; omega))
    clear hlf hlg hnt OF OG
    go_wp2_with fail
    obtain ⟨x, hx⟩ : ∃ x, (flowF ws s).thr[n]? = some x := ⟨_, List.getElem?_eq_getElem (by have := thr_len ws s _ (Nat.le_refl _); have := lt_total HP.out; show n < (flowTo ws s (total ws)).thr.length; omega)⟩
    obtain ⟨y, hy⟩ : ∃ y, (flowF ws t).thr[n]? = some y := ⟨_, List.getElem?_eq_getElem (by have := thr_len ws t _ (Nat.le_refl _); have := lt_total HP.out; show n < (flowTo ws t (total ws)).thr.length; omega)⟩
    obtain ⟨bf, of, rfl, hbf, q1⟩ := OFR.out.int hx
    obtain ⟨bg, og, rfl, hbg, q2⟩ := OGR.out.int hy
    rw [List.getD_eq_getElem?_getD, List.getD_eq_getElem?_getD, hx, hy] at HMM
    clear hx hy OFR OGR
    cases m
    · refine wp_region_held_drew (S := BelS w10) (by kernel_rfl) (BelS.drew0 _) (fun J0 => ?_)
      refine wpAnyH_ready (rs := [0]) (by kernel_rfl) (by simp) ?_
      refine AllReadyH.cons rfl (fun K hK => ?_) AllReadyH.nil
      go_simp
      refine (sanity_any _).mono ?_
      rintro e wq1 ⟨rfl, hq1⟩
      have J1 := J0.below hq1
      clear hq1
      refine hK.out _ _ J1 (fun _ => ?_)
      clear hK K
      try simp only [aS]
      refine tw 1 146 J1 ?_ (hy := by intro w' hSw; go_simp; try with_reducible rfl)
      try simp only [aS]
      refine tw 2 147 J1 ?_ (hy := by intro w' hSw; go_simp; try with_reducible rfl)
      try simp only [aS]
      refine tw 3 148 J1 ?_ (hy := by intro w' hSw; go_simp; try with_reducible rfl)
      try simp only [aS]
      refine tw 4 149 J1 ?_ (hy := by intro w' hSw; go_simp; try with_reducible rfl)
      try simp only [aS]
      refine sw 5 150 J1 ?_
      try simp only [aS]
      refine sw 6 151 J1 ?_
      try simp only [aS]
      refine sw 7 152 J1 ?_
      try simp only [aS]
      refine sw 8 153 J1 ?_
      try simp only [aS]
      refine sw 9 154 J1 ?_
      try simp only [aS]
      refine sw 10 155 J1 ?_
      try simp only [aS]
      refine sw 11 156 J1 ?_
      try simp only [aS]
      refine sw 12 157 J1 ?_
      try simp only [aS]
      refine sw 13 158 J1 ?_
      try simp only [aS]
      refine tw 14 159 J1 ?_ (hy := by intro w' hSw; go_simp; try with_reducible rfl)
      try simp only [aS]
      refine tw 15 160 J1 ?_ (hy := by intro w' hSw; go_simp; try with_reducible rfl)
      try simp only [aS]
      refine tw 16 8 J1 ?_ (hy := by intro w' hSw; go_simp; try with_reducible rfl)
      try simp only [aS]
      refine wpAnyH_done (by kernel_rfl) ?_ _
      have BE := Lib.hid (S10.out.bel.trans ((BelS.b J1).mono S10.out.bel.size))
      clear q1 q2
      go_wp2_with fail
      go_ret
      exact ⟨rfl, BE.out⟩
    · refine wp_region_held_drew (S := BelS w10) (by kernel_rfl) (BelS.drew0 _) (fun J0 => ?_)
      have hle : x ≤ y := by have := HMM.out rfl; simpa using this
      refine wpAnyH_ready (rs := [0]) (by kernel_rfl) (by simp) ?_
      refine AllReadyH.cons rfl (fun K hK => ?_) AllReadyH.nil
      go_simp
      refine (sanity_any _).mono ?_
      rintro e wq1 ⟨rfl, hq1⟩
      have J1 := J0.below hq1
      clear hq1
      refine hK.out _ _ J1 (fun _ => ?_)
      clear hK K
      try simp only [aS]
      refine tw 1 146 J1 ?_ (hy := by intro w' hSw; have q1 := hSw.c q1; have q2 := hSw.c q2; go_simp; try with_reducible rfl)
      try simp only [aS]
      refine tw 2 147 J1 ?_ (hy := by intro w' hSw; have q1 := hSw.c q1; have q2 := hSw.c q2; go_simp; try with_reducible rfl)
      try simp only [aS]
      refine tw 3 148 J1 ?_ (hy := by intro w' hSw; have q1 := hSw.c q1; have q2 := hSw.c q2; go_simp; try with_reducible rfl)
      try simp only [aS]
      refine tw 4 149 J1 ?_ (hy := by intro w' hSw; have q1 := hSw.c q1; have q2 := hSw.c q2; go_simp; try with_reducible rfl)
      try simp only [aS]
      refine tw 5 150 J1 ?_ (hy := by intro w' hSw; have q1 := hSw.c q1; have q2 := hSw.c q2; go_simp; try with_reducible rfl)
      try simp only [aS]
      refine tw 6 151 J1 ?_ (hy := by intro w' hSw; have q1 := hSw.c q1; have q2 := hSw.c q2; go_simp; try with_reducible rfl)
      try simp only [aS]
      refine tw 7 152 J1 ?_ (hy := by intro w' hSw; have q1 := hSw.c q1; have q2 := hSw.c q2; go_simp; try with_reducible rfl)
      try simp only [aS]
      refine tw 8 153 J1 ?_ (hy := by intro w' hSw; have q1 := hSw.c q1; have q2 := hSw.c q2; go_simp; try with_reducible rfl)
      try simp only [aS]
      refine tw 9 154 J1 ?_ (hy := by intro w' hSw; have q1 := hSw.c q1; have q2 := hSw.c q2; go_simp; try with_reducible rfl)
      try simp only [aS]
      refine tw 10 155 J1 ?_ (hy := by intro w' hSw; have q1 := hSw.c q1; have q2 := hSw.c q2; go_simp; try with_reducible rfl)
      try simp only [aS]
      refine tw 11 156 J1 ?_ (hy := by intro w' hSw; have q1 := hSw.c q1; have q2 := hSw.c q2; go_simp; try with_reducible rfl)
      try simp only [aS]
      refine tw 12 157 J1 ?_ (hy := by intro w' hSw; have q1 := hSw.c q1; have q2 := hSw.c q2; go_simp; try with_reducible rfl)
      try simp only [aS]
      refine tw 13 158 J1 ?_ (hy := by intro w' hSw; have q1 := hSw.c q1; have q2 := hSw.c q2; go_simp; try with_reducible rfl)
      try simp only [aS]
      refine tw 14 159 J1 ?_ (hy := by intro w' hSw; have q1 := hSw.c q1; have q2 := hSw.c q2; go_simp; try with_reducible rfl)
      try simp only [aS]
      refine tw 15 160 J1 ?_ (hy := by intro w' hSw; have q1 := hSw.c q1; have q2 := hSw.c q2; go_simp; try with_reducible rfl)
      try simp only [aS]
      refine tw 16 8 J1 ?_ (hy := by intro w' hSw; have q1 := hSw.c q1; have q2 := hSw.c q2; go_simp; try with_reducible rfl)
      try simp only [aS]
      refine wpAnyH_done (by kernel_rfl) ?_ _
      have BE := Lib.hid (S10.out.bel.trans ((BelS.b J1).mono S10.out.bel.size))
      clear q1 q2
      go_wp2_with fail
      go_ret
      exact ⟨rfl, BE.out⟩
end Go.Proofs.Ytkoacclbempmdaa

/- The law CarrierMonotone holds for every input: the row. -/
namespace Go.Proofs.Ytkoacclbempmdaa
open Go.ChangeShapes Go.WideShapes Go.ChangeAt Go.RowKit Go.Joins

namespace carrierMonotone
def wargs : Array Value := #[.agg #[.slice none 0 0], .int .i64 0, .agg #[.slice none 0 0, .slice none 0 0, .slice none 0 0, .slice none 0 0], .agg #[.slice none 0 0, .slice none 0 0, .slice none 0 0, .slice none 0 0]]
theorem laid_met (os : Os) : laidMet Try.prog Rows.carrierMonotoneRow.laid ((World.holding Try.prog os ⟨#[], #[], []⟩).forCall (fun _ _ => 0) ⟨#[], wargs, []⟩).memory :=
  laidMet_of_run' 8 (by kernel_rfl) (by kernel_rfl)
theorem reads (os : Os) {H : Type} (enc : TypeId × Value → H) : ∃ places, DataW.whole enc Try.prog ((World.holding Try.prog os ⟨#[], #[], []⟩).forCall (fun _ _ => 0) ⟨#[], wargs, []⟩).memory Try.f5.params.toList Rows.carrierMonotoneSpec.vars false wargs.toList 8 = some ([.agg [.nil], .lit (.int .i64 0), .agg [.nil, .nil, .nil, .nil], .agg [.nil, .nil, .nil, .nil]], [], places) :=
  ⟨[], by kernel_rfl⟩

set_option maxHeartbeats 1000000 in
set_option maxRecDepth 100000 in
/-- What the walk gives, for every argument. -/
theorem contract (H : Type) (enc : TypeId × Value → H) (W : World) (base : Nat) (args : Array Value) (ds gs : List (DataW H)) (before : List MemPlace)
    (hval : ∀ (j : Nat) t v, Try.f5.params[j]? = some t → args[j]? = some v → Value.okWide Try.prog W .any base t v)
    (hW : DataW.Whole enc Try.prog Try.f5.params.toList Rows.carrierMonotoneSpec.vars false W args.toList ds gs before)
    (hwt : (DataW.weightsEach Try.prog (Try.f5.params.toList ++ DataSpec.varTypes Try.prog (OpenSpec.ofChange Rows.carrierMonotoneSpec).bare.plain) (ds ++ gs)).all (· ≤ reachBytes) = true) :
    Calls Try.prog 5 args W fun e W' => ∃ v, e = .returned v ∧ Rows.carrierMonotoneSpec.post enc Try.prog Try.f5 false true false false W args v W' := by
  have hW' := hW
  obtain ⟨p, q, hA0, hV, rfl, hfz, hnd⟩ := hW
  have hA : DataW.TrodAll enc Try.prog W 0 (fun _ => true) true Try.f5.params.toList args.toList ds p := hA0
  have hAk := hA
  have hsize : ∀ t ∈ Try.f5.params.toList, t < Try.prog.types.size := by rw [Try.params5]; decide +kernel
  have hwt' := hwt
  rw [Try.params5] at hA hval hwt'
  obtain ⟨v0, vs0, d0, ds0, p0, q0, hargs, rfl, rfl, h0, r0⟩ := trodAll_cons hA
  obtain ⟨v1, vs1, d1, ds1, p1, q1, rfl, rfl, rfl, h1, r1⟩ := trodAll_cons r0
  obtain ⟨v2, vs2, d2, ds2, p2, q2, rfl, rfl, rfl, h2, r2⟩ := trodAll_cons r1
  obtain ⟨v3, vs3, d3, ds3, p3, q3, rfl, rfl, rfl, h3, r3⟩ := trodAll_cons r2
  obtain ⟨rfl, rfl, rfl⟩ := trodAll_nil r3
  obtain rfl : args = #[v0, v1, v2, v3] := by cases args; simp_all
  obtain ⟨rfl, rfl⟩ := trodVars_none hV
  obtain ⟨A, c, ws, rfl, hk⟩ := works_open (hval 0 24 v0 rfl rfl) h0 (WB.each _ _ hwt' 0 _ _ rfl rfl)
  obtain ⟨n1, rfl, rfl, rfl, wn1⟩ := open_int Try.underlying3 (hval 1 3 v1 rfl rfl) h1
  obtain ⟨s2, hs2⟩ := water_open (hval 2 27 v2 rfl rfl) h2 (WB.each _ _ hwt' 2 _ _ rfl rfl)
  obtain ⟨s3, hs3⟩ := water_open (hval 3 27 v3 rfl rfl) h3 (WB.each _ _ hwt' 3 _ _ rfl rfl)
  have hcall := monotone_law A c v2 v3 ws n1 s2 s3 W hk hs2 hs3
  refine hcall.mono fun e W' ⟨he, hb⟩ => ?_
  subst he
  refine ⟨_, rfl, _, _, _, [], _, [], hW', ?_, args_again hb hsize hAk, ?_, hb.frame _, fun h => by cases h⟩
  · exact trodAll_cons_mk (shut_bool Try.underlying4 _) trodAll_mk0
  · rfl

set_option maxRecDepth 100000 in
theorem lifted (os : Os) (started : os.Started) (H : Type) (enc : TypeId × Value → H) (F : Stop.Interp) :
    ReturnsInHanded {} Try.checked os 5 .any ((OpenSpec.ofChange Rows.carrierMonotoneSpec).preRow enc Try.prog Try.f5 Rows.carrierMonotoneRow.domain false Rows.carrierMonotoneRow.laid) (((OpenSpec.ofChange Rows.carrierMonotoneSpec).at F).post enc Try.prog Try.f5 false true false false) := by
  obtain ⟨places, hx⟩ := reads os enc
  refine returnsInHanded_of_row (C := Try.checked) (s := OpenSpec.ofChange Rows.carrierMonotoneSpec) own started (by kernel_rfl) Try.func5
    (witness_row_at (enc := enc) (C := Try.checked) false (World.holding Try.prog os ⟨#[], #[], []⟩) wargs rfl (by kernel_rfl) (by kernel_rfl) (by kernel_rfl)
      (OpenSpec.preRow_of_cond 8 hx (by kernel_rfl) (fun k hk => by cases hk) (by kernel_rfl) (laid_met os))) ?_
  intro W base args ds gs before hval hW _ _ hwt hL _ _
  exact contract H enc W base args ds gs before hval hW hwt

theorem said : Rows.CarrierMonotoneSaid :=
  OpenClaim.holds_of_cond 5 Try.f5 rfl rfl rfl rfl rfl rfl rfl ⟨rfl, rfl, rfl, rfl, rfl⟩ rfl rfl rfl rfl rfl (by kernel_rfl) Try.func5 (by kernel_rfl)
    (of_decide_eq_true (by kernel_rfl)) (by unfold Func.isWrapper; first | (rw [if_pos (by decide +kernel)]; kernel_rfl) | (rw [if_neg (by decide +kernel)]; exact ⟨rfl, rfl⟩))
    (fun os started H enc _ F => by rw [OpenClaim.pre_eq_preRow]; exact lifted os started H enc F)
end carrierMonotone
theorem carrierMonotone_holds : Rows.CarrierMonotoneSaid := carrierMonotone.said
end Go.Proofs.Ytkoacclbempmdaa
