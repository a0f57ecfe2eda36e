/- Plain mathematics: more by its signs gives an outlet no less. -/
import Derived.Test.YtkoacclbempmdaaGZF
import Derived.Test.YtkoacclbempmdaaGH
import Derived.Test.YtkoacclbempmdaaGZL
import Derived.Test.YtkoacclbempmdaaGZD
import Derived.Test.YtkoacclbempmdaaOO6
import Derived.Test.YtkoacclbempmdaaGJ
namespace Go.Proofs.Ytkoacclbempmdaa
open Go.RowKit

/-- If a carrier of a path is fed, its feeder is on the path. -/
theorem PathIs.feeder {ws : Wk} {i : Nat} {l : List Nat} (h : PathIs ws i l) : ∀ k ∈ l, ∀ q, (allP ws)[k]? = some q → ∀ j : Nat, FstIs (fun o : Ou => o.into) (outs ws) q.c j → j ∈ l := by
  induction h with
  | head hp hf =>
    intro k hk q hq j hj
    rw [List.mem_singleton] at hk
    subst hk
    rw [hp] at hq
    cases hq
    have := hf.unique hj
    omega
  | @step i j0 p0 l hp hf h ih =>
    intro k hk q hq j hj
    rcases List.mem_append.1 hk with hk | hk
    · exact List.mem_append.2 (.inl (ih k hk q hq j hj))
    · rw [List.mem_singleton] at hk
      subst hk
      rw [hp] at hq
      cases hq
      have := hf.unique hj
      obtain rfl : j0 = j := by omega
      exact List.mem_append.2 (.inl h.self_mem)
/-- The outlet of a path on a carrier. -/
theorem endE_pos {ws : Wk} (hw : WOk ws) {i : Nat} {p : Pl} (hp : (allP ws)[i]? = some p) {c : Nat} (hc : 0 < endE ws p.o.id c) : ∃ (k : Nat) (q : Pl), k ∈ pathOf ws i ∧ (allP ws)[k]? = some q ∧ q.c = c ∧ endE ws p.o.id c = q.n + 1 := by
  by_cases h : ∃ (k : Nat) (q : Pl), k ∈ pathOf ws i ∧ (allP ws)[k]? = some q ∧ q.c = c
  · obtain ⟨k, q, hk, hq, rfl⟩ := h
    exact ⟨k, q, hk, hq, rfl, endE_at hw hp hk hq⟩
  · rw [endE_none hw hp (fun k hk q hq e => h ⟨k, q, hk, hq, e⟩)] at hc
    omega
/-- What leads into a carrier of a path is on the path. -/
theorem endE_into {ws : Wk} (hw : WOk ws) {i m : Nat} {p q : Pl} (hp : (allP ws)[i]? = some p) (hq : (allP ws)[m]? = some q) {c : Nat} (hc : 0 < endE ws p.o.id c) (hi : q.o.into = c) : endE ws p.o.id q.c = q.n + 1 := by
  obtain ⟨k, r, hk, hr, rfl, -⟩ := endE_pos hw hp hc
  have hP := pathOf_is hw (lt_total hp)
  have ho := (outs_get hq).1
  obtain ⟨x, hx⟩ := FstIs.exists_ (fun o : Ou => o.into) (outs ws) r.c
  have hx' := hx
  rcases hx with ⟨j, o, hj, he, -, rfl⟩ | ⟨hn, -⟩
  · have hjm : j = m := by
      obtain ⟨qj, hqj⟩ := at_total (ws := ws) (n := j) (by have := (List.getElem?_eq_some_iff.1 hj).1; rw [outs_len] at this; exact this)
      have hoj := (outs_get hqj).1
      rw [hj] at hoj
      cases hoj
      have he : qj.o.into = r.c := he
      rcases Nat.lt_trichotomy j m with h | h | h
      · exact absurd (he.trans hi.symm) ((hw.one j m qj q hqj hq h).2 (by omega))
      · exact h
      · exact absurd (hi.trans he.symm) ((hw.one m j q qj hq hqj h).2 (by omega))
    subst hjm
    exact endE_at hw hp (hP.feeder k hk r hr j hx') hq
  · exact absurd hi (hn m q.o ho)

/-- What has a sign is no less in a second water, or no more. -/
structure UpS (ws : Wk) (e : Nat → Nat) (s t : Wa) : Prop where
  r : ∀ (k c : Nat) (x y : Int), (headsN ws)[k]? = some c → s.river[k]? = some x → t.river[k]? = some y → 0 < e c → x ≤ y
  b : ∀ (i : Nat) (p : Pl) (x y : Int), (allP ws)[i]? = some p → s.boards[i]? = some x → t.boards[i]? = some y → (p.n + 1 = e p.c → x ≤ y) ∧ (p.n + 1 < e p.c → y ≤ x)
  k : ∀ (i : Nat) (p : Pl) (x y : Int), (allP ws)[i]? = some p → s.leaks[i]? = some x → t.leaks[i]? = some y → (p.n + 1 = e p.c → x ≤ y) ∧ (p.n + 1 < e p.c → y ≤ x)
  l : ∀ (i : Nat) (p : Pl) (x y : Int), (allP ws)[i]? = some p → s.losses[i]? = some x → t.losses[i]? = some y → p.n < e p.c → y ≤ x

theorem ps_mono {o : Ou} (h : OuOk o) {a b : Nat} {x y : Int} (hx : o.ps[a]? = some x) (hy : o.ps[b]? = some y) (hab : a ≤ b) : x ≤ y := by
  rcases Nat.lt_or_ge a b with h' | h'
  · exact Int.le_of_lt (h.pm a b x y hx hy h')
  · obtain rfl : a = b := by omega
    rw [hx] at hy
    cases hy
    exact Int.le_refl _

section
variable {ws : Wk} {e : Nat → Nat} {s t : Wa} {n : Nat} {q : Pl}
theorem UpS.loss (hw : WOk ws) (hs : WaOk ws s) (ht : WaOk ws t) (hu : UpS ws e s t) (hq : (allP ws)[n]? = some q) (he : q.n < e q.c) : t.losses.getD q.at_ 0 ≤ s.losses.getD q.at_ 0 := by
  obtain ⟨b1, k1, l1, c1, hb1, hk1, hl1, hc1, -, -, -, -, -, -, -, e1, f1⟩ := hs.at_ hw hq
  obtain ⟨b2, k2, l2, c2, hb2, hk2, hl2, hc2, -, -, -, -, -, -, -, e2, f2⟩ := ht.at_ hw hq
  rw [f1, f2]
  exact hu.l n q l1 l2 hq hl1 hl2 he
theorem UpS.cap_up (hw : WOk ws) (hs : WaOk ws s) (ht : WaOk ws t) (hu : UpS ws e s t) (hq : (allP ws)[n]? = some q) (he : q.n + 1 = e q.c) : s.cap q ≤ t.cap q := by
  obtain ⟨b1, k1, l1, c1, hb1, hk1, hl1, hc1, -, -, -, -, -, -, -, e1, f1⟩ := hs.at_ hw hq
  obtain ⟨b2, k2, l2, c2, hb2, hk2, hl2, hc2, -, -, -, -, -, -, -, e2, f2⟩ := ht.at_ hw hq
  have h1 := (hu.b n q b1 b2 hq hb1 hb2).1 he
  have h2 := (hu.k n q k1 k2 hq hk1 hk2).1 he
  have h3 := ps_mono (hw.ou hq) hc1 hc2 (by omega)
  omega
theorem UpS.cap_down (hw : WOk ws) (hs : WaOk ws s) (ht : WaOk ws t) (hu : UpS ws e s t) (hq : (allP ws)[n]? = some q) (he : q.n + 1 < e q.c) : t.cap q ≤ s.cap q := by
  obtain ⟨b1, k1, l1, c1, hb1, hk1, hl1, hc1, -, -, -, -, -, -, -, e1, f1⟩ := hs.at_ hw hq
  obtain ⟨b2, k2, l2, c2, hb2, hk2, hl2, hc2, -, -, -, -, -, -, -, e2, f2⟩ := ht.at_ hw hq
  have h1 := (hu.b n q b1 b2 hq hb1 hb2).2 he
  have h2 := (hu.k n q k1 k2 hq hk1 hk2).2 he
  have h3 := ps_mono (hw.ou hq) hc2 hc1 (by omega)
  omega
theorem thr_up {f g : FS} (h : f.t q.c ≤ g.t q.c) (hl : t.losses.getD q.at_ 0 ≤ s.losses.getD q.at_ 0) (hc : s.cap q ≤ t.cap q) : thrS s f q ≤ thrS t g q := by
  unfold thrS lostS
  omega
theorem rest_up {f g : FS} (h : f.t q.c ≤ g.t q.c) (hl : t.losses.getD q.at_ 0 ≤ s.losses.getD q.at_ 0) (hc : t.cap q ≤ s.cap q) : f.t q.c - lostS s f q - thrS s f q ≤ g.t q.c - lostS t g q - thrS t g q := by
  unfold thrS lostS
  omega
end
theorem startT_up {ws : Wk} {e : Nat → Nat} {s t : Wa} (hs : WaOk ws s) (ht : WaOk ws t) (hu : UpS ws e s t) {c : Nat} (hc : 0 < e c) : startT ws s c ≤ startT ws t c := by
  unfold startT
  cases hx : (headsN ws).idxOf? c with
  | none => exact Int.le_refl _
  | some k =>
    have hk : (headsN ws)[k]? = some c := by
      rw [List.idxOf?_eq_some_iff] at hx
      obtain ⟨h1, h2, -⟩ := hx
      rw [List.getElem?_eq_getElem h1, h2]
    have hkl := (List.getElem?_eq_some_iff.1 hk).1
    have h1 : s.river[k]? = some (s.river.getD k 0) := by
      rw [List.getD_eq_getElem?_getD, List.getElem?_eq_getElem (by rw [hs.r]; exact hkl)]
      rfl
    have h2 : t.river[k]? = some (t.river.getD k 0) := by
      rw [List.getD_eq_getElem?_getD, List.getElem?_eq_getElem (by rw [ht.r]; exact hkl)]
      rfl
    exact hu.r k c _ _ hk h1 h2 hc
theorem flow_up {ws : Wk} (hw : WOk ws) {s t : Wa} (hs : WaOk ws s) (ht : WaOk ws t) {i : Nat} {p : Pl} (hp : (allP ws)[i]? = some p) {e : Nat → Nat} (he : e = endE ws p.o.id) (hu : UpS ws e s t) :
    ∀ n, n ≤ total ws → (∀ c, 0 < e c → n < pre ws c + e c → (flowTo ws s n).t c ≤ (flowTo ws t n).t c) ∧ ∀ (j : Nat) (q : Pl), j < n → (allP ws)[j]? = some q → q.n + 1 = e q.c → (flowTo ws s n).thr.getD j 0 ≤ (flowTo ws t n).thr.getD j 0
  | 0, _ => ⟨fun c hc _ => startT_up hs ht hu hc, fun j q h => by omega⟩
  | n + 1, hn => by
    obtain ⟨ih1, ih2⟩ := flow_up hw hs ht hp he hu n (by omega)
    obtain ⟨q, hq⟩ := at_total (ws := ws) (n := n) (by omega)
    obtain ⟨-, os, h1, h2, h3⟩ := allP_inv hq
    have hB : q.n + 1 = e q.c → thrS s (flowTo ws s n) q ≤ thrS t (flowTo ws t n) q := fun hx =>
      thr_up (ih1 q.c (by omega) (by omega)) (hu.loss hw hs ht hq (by omega)) (hu.cap_up hw hs ht hq hx)
    rw [flowTo_succ s hq, flowTo_succ t hq]
    refine ⟨fun c hc hlt => ?_, fun j r hj hr hx => ?_⟩
    · show (if (c : Int) = q.o.into then thrS s (flowTo ws s n) q else if c = q.c then (flowTo ws s n).t q.c - lostS s (flowTo ws s n) q - thrS s (flowTo ws s n) q else (flowTo ws s n).t c) ≤ (if (c : Int) = q.o.into then thrS t (flowTo ws t n) q else if c = q.c then (flowTo ws t n).t q.c - lostS t (flowTo ws t n) q - thrS t (flowTo ws t n) q else (flowTo ws t n).t c)
      by_cases hi : (c : Int) = q.o.into
      · rw [if_pos hi, if_pos hi]
        subst he
        exact hB (endE_into hw hp hq hc hi.symm).symm
      · rw [if_neg hi, if_neg hi]
        by_cases hcq : c = q.c
        · subst hcq
          rw [if_pos rfl, if_pos rfl]
          exact rest_up (ih1 q.c (by omega) (by omega)) (hu.loss hw hs ht hq (by omega)) (hu.cap_down hw hs ht hq (by omega))
        · rw [if_neg hcq, if_neg hcq]
          exact ih1 c hc (by omega)
    · show ((flowTo ws s n).thr ++ [thrS s (flowTo ws s n) q]).getD j 0 ≤ ((flowTo ws t n).thr ++ [thrS t (flowTo ws t n) q]).getD j 0
      have hl1 := thr_len ws s n (by omega)
      have hl2 := thr_len ws t n (by omega)
      rw [List.getD_eq_getElem?_getD, List.getD_eq_getElem?_getD]
      rcases Nat.lt_or_ge j n with h | h
      · rw [List.getElem?_append_left (by omega), List.getElem?_append_left (by omega)]
        have := ih2 j r h hr hx
        rwa [List.getD_eq_getElem?_getD, List.getD_eq_getElem?_getD] at this
      · obtain rfl : j = n := by omega
        rw [hq] at hr
        cases hr
        rw [List.getElem?_append_right (by omega), List.getElem?_append_right (by omega), hl1, hl2, Nat.sub_self]
        exact hB hx
/-- More by its signs gives an outlet no less. -/
theorem flow_mono {ws : Wk} (hw : WOk ws) {s t : Wa} (hs : WaOk ws s) (ht : WaOk ws t) {i : Nat} {p : Pl} (hp : (allP ws)[i]? = some p) (hu : UpS ws (endE ws p.o.id) s t) : (flowF ws s).thr.getD i 0 ≤ (flowF ws t).thr.getD i 0 :=
  (flow_up hw hs ht hp rfl hu (total ws) (Nat.le_refl _)).2 i p (lt_total hp) hp (endE_at hw hp (pathOf_is hw (lt_total hp)).self_mem hp).symm
end Go.Proofs.Ytkoacclbempmdaa

/- A carrier, an outlet, in memory; a number behind a list. -/
namespace Go.Proofs.Ytkoacclbempmdaa
open Go.RowKit
theorem rk_at {B n c k : Nat} {A : Option Addr} {ws : Wk} {os : List Ou} {w : World} (h : RK B (.slice A n c) ws w) (hos : ws[k]? = some os) : ∃ b o, A = some ⟨b, o, none⟩ ∧ b < B ∧ ∃ u, w.cell? ⟨b, o + k, none⟩ = some u ∧ ∃ A1 c1, u = .slice A1 os.length c1 ∧ RO B u os w := by
  obtain ⟨A0, c0, e0, -, hx⟩ := h
  have hk := (List.getElem?_eq_some_iff.1 hos).1
  simp only [Value.slice.injEq] at e0
  obtain ⟨rfl, -, -⟩ := e0
  obtain ⟨b, o, e1, e2, e3⟩ := hx (by omega)
  obtain ⟨u, hu, hr⟩ := e3 k os hos
  obtain ⟨a, cc, e⟩ := hr.slice
  exact ⟨b, o, e1, e2, u, hu, a, cc, e, hr⟩
theorem ro_at {B n c j : Nat} {A : Option Addr} {os : List Ou} {p : Ou} {w : World} (h : RO B (.slice A n c) os w) (hp : os[j]? = some p) : ∃ b o, A = some ⟨b, o, none⟩ ∧ b < B ∧ OuAt B b (o + j * 7) p w := by
  obtain ⟨A0, c0, e0, -, hx⟩ := h
  have hj := (List.getElem?_eq_some_iff.1 hp).1
  simp only [Value.slice.injEq] at e0
  obtain ⟨rfl, -, -⟩ := e0
  obtain ⟨b, o, e1, e2, e3⟩ := hx (by omega)
  exact ⟨b, o, e1, e2, e3 j p hp⟩
theorem own_snoc {W : World} {base n : Nat} {v : Value} {l : List Int} {y : Int} (h : W.ownsRow base 3 1 v (n + 1) (l.flatMap encI ++ [.int .i64 y])) (hn : l.length = n) : OwnG encI 1 3 base v (l ++ [y]) W := by
  unfold OwnG
  rw [List.flatMap_append, List.length_append, hn]
  exact h
theorem new_set (W : World) (a : Addr) (v x : Value) (t : TypeId) (i : Nat) (u : Value) (hi : [x][i]? = some u) : ((W.setCell a v).alloc (.cells #[x] t)).cell? ((⟨W.heap.size, 0, none⟩ : Addr).add i) = some u := by
  have := one_news (W.setCell a v) x t i u hi
  rwa [show (W.setCell a v).heap.size = W.heap.size by simp] at this

end Go.Proofs.Ytkoacclbempmdaa

/- Contracts of the laws' flowing, boarded, given. -/
namespace Go.Proofs.Ytkoacclbempmdaa
open Go.RowKit

set_option maxHeartbeats 8000000 in
set_option maxRecDepth 1000000 in
theorem flowing_any (v wv : Value) (ws : Wk) (s : Wa) (i : Nat) (w : World) (h : RK w.heap.size v ws w) (ht : total ws ≤ 100000) (hs : RWa w.heap.size wv s w) (hd : WatIs ws s 0) (hi : i < total ws) :
    Calls Try.prog 36 #[.agg #[v], wv, .int .i64 i] w fun e w' => e = .returned (.int .i64 ((flowF ws s).thr.getD i 0)) ∧ Below w.heap.size w w' := by
  obtain ⟨A, c, rfl, -⟩ := (show ∃ A c, v = .slice A ws.length c ∧ True by obtain ⟨A, c, e, _⟩ := h; exact ⟨A, c, e, trivial⟩)
  obtain ⟨A1, c1, A2, c2, A3, c3, A4, c4, rfl⟩ := hs.form
  have C1 := Lib.hid fun W (hb : Below w.heap.size w W) => Flow_any (.slice A ws.length c) _ ws s 0 W (h.up hb.size hb) (by omega) (hs.up hb.size hb) hd
  have S0 := Lib.hid (WW.new w (.slice A ws.length c) (.slice A1 s.river.length c1) (.slice A2 s.boards.length c2) (.slice A3 s.leaks.length c3) (.slice A4 s.losses.length c4))
  have hlf : (flowF ws s).thr.length = total ws := thr_len ws s _ (Nat.le_refl _)
  obtain ⟨x, hx⟩ : ∃ x, (flowF ws s).thr[i]? = some x := ⟨_, List.getElem?_eq_getElem (by omega)⟩
  have hg : (flowF ws s).thr.getD i 0 = x := by rw [List.getD_eq_getElem?_getD, hx]; rfl
  have HX := Lib.hid hx
  have HLF := Lib.hid hlf
  have HT := Lib.hid ht
  have hi0 : (i : Int) < (total ws : Int) := by omega
  have hi1 : (0 : Int) ≤ (i : Int) := by omega
  rw [hg]
  clear h hs hd hx hg hlf hi
  go_enter Try.func36, Try.ntmps36
  go_wp2_with fail
  refine (C1.out _ S0.out.bel).mono ?_
  rintro e w1 ⟨u, rfl, hu, b1⟩
  have S1 := Lib.hid (S0.out.below b1)
  rw [okL_zero] at hu
  obtain ⟨U, cu, rfl, -⟩ := hu.form
  rw [HLF.out]
  have R := Lib.hid (hu.rr EI (by rw [HLF.out]; have := HT.out; show total ws ≤ 1000000000000000; omega))
  rw [HLF.out] at R
  obtain ⟨b, o, rfl, -, q⟩ := R.out.int HX.out
  clear b1 hu R
  go_wp2_with fail
  go_ret
  exact ⟨rfl, S1.out.bel⟩

theorem set4b {W : World} {b : Nat} {a0 a1 a2 a3 : Value} (h0 : W.cell? ⟨b, 0, none⟩ = some a0) (h1 : W.cell? ⟨b, 1, none⟩ = some a1) (h2 : W.cell? ⟨b, 2, none⟩ = some a2) (h3 : W.cell? ⟨b, 3, none⟩ = some a3) (v0 v1 v2 v3 : Value) {X : World} (hX : (((W.setCell ⟨b, 0, none⟩ v0).setCell ⟨b, 1, none⟩ v1).setCell ⟨b, 2, none⟩ v2).setCell ⟨b, 3, none⟩ v3 = X) :
    X.cell? ⟨b, 0, none⟩ = some v0 ∧ X.cell? ⟨b, 1, none⟩ = some v1 ∧ X.cell? ⟨b, 2, none⟩ = some v2 ∧ X.cell? ⟨b, 3, none⟩ = some v3 ∧ GrownL [b] W X := by
  subst hX
  have n : ∀ i j, i ≠ j → ∀ (X : World) (v : Value), (X.setCell ⟨b, i, none⟩ v).cell? ⟨b, j, none⟩ = X.cell? ⟨b, j, none⟩ := fun i j hij X v => World.cell?_setCell_other _ ⟨b, i, none⟩ ⟨b, j, none⟩ _ (by simp <;> omega)
  obtain ⟨p0, p1, p2, g⟩ := set3 h0 h1 h2 v0 v1 v2
  refine ⟨by rw [n 3 0 (by decide), p0], by rw [n 3 1 (by decide), p1], by rw [n 3 2 (by decide), p2], World.cell?_setCell_same' _ _ _ (by rw [n 2 3 (by decide), n 1 3 (by decide), n 0 3 (by decide), h3]; rfl), g.trans (GrownL.set _ _ _ (by simp))⟩

/-- A literal without elements is a list of one's own. -/
theorem OwnG.lit0 {α : Type} (enc : α → List Value) (s : Nat) (e : TypeId) {base g : Nat} {W : World} (hg : W.heap[g]? = some (.cells #[] e (0, 0))) (hb : base ≤ g) : OwnG enc s e base (.slice (some ⟨g, 0, none⟩) 0 0) [] W :=
  ⟨by simp, .inr ⟨g, 0, #[], rfl, hb, hg, Nat.le_refl _, by unfold maxLen; omega, by simp, by simp⟩⟩

set_option maxHeartbeats 8000000 in
set_option maxRecDepth 1000000 in
theorem boarded_any (wv : Value) (s : Wa) (i : Nat) (k : Int) (w : World) (hs : RWa w.heap.size wv s w) (hi : i < s.boards.length) (hl : s.boards.length ≤ 1000) :
    Calls Try.prog 37 #[wv, .int .i64 i, .int .i64 k] w fun e w' => ∃ v, e = .returned v ∧ RWa w'.heap.size v (setB s i k) w' ∧ Below w.heap.size w w' := by
  obtain ⟨i0, hz0, hj0, hj1, hj2⟩ := info_parts infoInt
  obtain ⟨A1, c1, A2, c2, A3, c3, A4, c4, rfl⟩ := hs.form
  have HS := Lib.hid hs
  obtain ⟨W0, hW0⟩ : ∃ W0, ((w.alloc (.cells #[.slice A1 s.river.length c1, .slice A2 s.boards.length c2, .slice A3 s.leaks.length c3, .slice A4 s.losses.length c4] 27)).alloc (.cells #[.slice none 0 0, .slice none 0 0, .slice none 0 0, .slice none 0 0] 27)) = W0 := ⟨_, rfl⟩
  have hsz : W0.heap.size = w.heap.size + 2 := by rw [← hW0]; simp
  have hB0 : Below w.heap.size w W0 := by rw [← hW0]; exact ((Below.refl _ _).alloc (Nat.le_refl _) _).alloc (by simp) _
  have K0 : (∀ j u, [Value.slice A1 s.river.length c1, .slice A2 s.boards.length c2, .slice A3 s.leaks.length c3, .slice A4 s.losses.length c4][j]? = some u → W0.cell? ⟨w.heap.size, j, none⟩ = some u) ∧ (∀ j, W0.frozen? ⟨w.heap.size, j, none⟩ = false) ∧ (∀ j, j < 4 → W0.cell? ⟨w.heap.size + 1, j, none⟩ = some (.slice none 0 0)) ∧ ∀ j, W0.frozen? ⟨w.heap.size + 1, j, none⟩ = false := by
    rw [← hW0]
    refine ⟨fun j u hj => ?_, fun j => by simp [go_sem], fun j hj => ?_, fun j => by simp [go_sem]⟩
    · match j, hj with
      | 0, hj => simpa [go_sem] using hj
      | 1, hj => simpa [go_sem] using hj
      | 2, hj => simpa [go_sem] using hj
      | 3, hj => simpa [go_sem] using hj
      | j + 4, hj => simp at hj
    · match j, hj with
      | 0, _ => simp [go_sem]
      | 1, _ => simp [go_sem]
      | 2, _ => simp [go_sem]
      | 3, _ => simp [go_sem]
  obtain ⟨W3, hW3⟩ : ∃ W3, W0.alloc (.cells #[] 3) = W3 := ⟨_, rfl⟩
  have g3 : GrownL [] W0 W3 := by rw [← hW3]; exact GrownL.of_below ((Below.refl _ _).alloc (Nat.le_refl _) _)
  have hs3 : W3.heap.size = w.heap.size + 3 := by rw [← hW3]; simp [hsz]
  have hB3 : Below w.heap.size w W3 := hB0.trans (g3.below (by simp) hB0.size)
  obtain ⟨v', W', r1, o1, g1, s1⟩ := app_list (P := Try.prog) (base := w.heap.size + 2) EI Try.underlying25 hz0 hj0 hj1 hj2 rfl (OwnG.lit0 encI 1 3 (W := W3) (g := W0.heap.size) (by rw [← hW3]; exact World.alloc_heap_new W0 _) (by omega)) hs.parts.2.1 hB3 (by omega) (by simp) (by omega) (by decide)
  rw [List.nil_append] at o1
  have hg1 : ∀ k, k < w.heap.size + 2 → k ∉ (Value.slice (some ⟨W0.heap.size, 0, none⟩) 0 0).ownBlock.toList := fun k hk hm => by simp [Value.ownBlock] at hm; omega
  have hB' : Below w.heap.size w W' := hB3.trans (g1.below (fun k hk => by simp [Value.ownBlock] at hk; omega) hB3.size)
  have KW := fun (a : Addr) (ha : a.block < w.heap.size + 2) => And.intro (fun u (hu : W0.cell? a = some u) => g1.cell (g3.cell hu (by simp)) (hg1 _ ha)) (fun (hu : W0.frozen? a = false) => (World.frozen?_of_block (a := a) (g1.block _ (by omega) (hg1 _ ha))).trans ((World.frozen?_of_block (a := a) (g3.block _ (by omega) (by simp))).trans hu))
  obtain ⟨Ag, cg, rfl, hAg⟩ := o1.form
  obtain ⟨g, rfl⟩ := hAg (by omega)
  have hgg := o1.lt g rfl
  have x0 := (KW ⟨w.heap.size, 0, none⟩ (by show w.heap.size < _; omega)).1 _ (K0.1 0 _ rfl)
  have x1 := (KW ⟨w.heap.size, 1, none⟩ (by show w.heap.size < _; omega)).1 _ (K0.1 1 _ rfl)
  have x2 := (KW ⟨w.heap.size, 2, none⟩ (by show w.heap.size < _; omega)).1 _ (K0.1 2 _ rfl)
  have x3 := (KW ⟨w.heap.size, 3, none⟩ (by show w.heap.size < _; omega)).1 _ (K0.1 3 _ rfl)
  have z1 := (KW ⟨w.heap.size, 1, none⟩ (by show w.heap.size < _; omega)).2 (K0.2.1 1)
  have R := Lib.hid (fun j (hj : j < 4) => And.intro ((KW ⟨w.heap.size + 1, j, none⟩ (by show w.heap.size + 1 < _; omega)).1 _ (K0.2.2.1 j hj)) ((KW ⟨w.heap.size + 1, j, none⟩ (by show w.heap.size + 1 < _; omega)).2 (K0.2.2.2 j)))
  have y1 : (W0.alloc (.cells #[] 3)).cell? ⟨w.heap.size, 1, none⟩ = some (.slice A2 s.boards.length c2) := by rw [hW3]; exact g3.cell (K0.1 1 _ rfl) (by simp)
  have R1 := Lib.hid r1
  have HW0 := Lib.hid hW0
  have HW3 := Lib.hid hW3
  -- behind the store of the list
  obtain ⟨X, hX⟩ : ∃ X, W'.setCell ⟨w.heap.size, 1, none⟩ (.slice (some ⟨g, 0, none⟩) s.boards.length cg) = X := ⟨_, rfl⟩
  have gX : GrownL [w.heap.size] W' X := by rw [← hX]; exact GrownL.set _ _ _ (by simp)
  have oX := o1.grown gX (fun b hb hm => by simp [Value.ownBlock] at hb hm; omega)
  have ow' : X.ownsRow (w.heap.size + 2) 3 1 (.slice (some ⟨g, 0, none⟩) s.boards.length cg) s.boards.length (s.boards.flatMap encI) := oX
  obtain ⟨y, hy⟩ : ∃ y, s.boards[i]? = some y := ⟨_, List.getElem?_eq_getElem hi⟩
  have hat : (s.boards.flatMap encI)[i]? = some (.int .i64 y) := by have := EI.at_ s.boards i 0 y hy (by decide); rw [Nat.mul_one, Nat.add_zero] at this; exact this.trans rfl
  have u0 : X.cell? ⟨g, i, none⟩ = some (.int .i64 y) := (World.ownsRow.cellAt ow' i (by omega)).trans hat
  have u1 := World.ownsRow.frozenAt ow' i
  have u2 : X.cell? ⟨w.heap.size, 1, none⟩ = some (.slice (some ⟨g, 0, none⟩) s.boards.length cg) := by rw [← hX]; exact World.cell?_setCell_same' _ _ _ (by rw [x1]; rfl)
  -- behind the store of the number
  obtain ⟨Y, hY⟩ : ∃ Y, X.setCell ⟨g, i, none⟩ (.int .i64 k) = Y := ⟨_, rfl⟩
  have gY : GrownL [g] X Y := by rw [← hY]; exact GrownL.set _ _ _ (by simp)
  have oY : OwnG encI 1 3 (w.heap.size + 2) (.slice (some ⟨g, 0, none⟩) s.boards.length cg) (s.boards.set i k) Y := by rw [← hY]; exact OwnG.set1 oX rfl i k
  have nX : ∀ a : Addr, a.block = w.heap.size + 1 → ∀ u, W'.cell? a = some u → Y.cell? a = some u := fun a ha u hu => gY.cell (gX.cell hu (by simp; omega)) (by simp; omega)
  have fX : ∀ a : Addr, a.block = w.heap.size + 1 → W'.frozen? a = false → Y.frozen? a = false := fun a ha hu => (World.frozen?_of_block (a := a) (gY.block _ (by have := gX.size; have := hB'.size; omega) (by simp; omega))).trans ((World.frozen?_of_block (a := a) (gX.block _ (by omega) (by simp; omega))).trans hu)
  have cX : ∀ j u, j ≠ 1 → W'.cell? ⟨w.heap.size, j, none⟩ = some u → Y.cell? ⟨w.heap.size, j, none⟩ = some u := fun j u hj hu => gY.cell (by rw [← hX]; exact (World.cell?_setCell_other _ ⟨w.heap.size, 1, none⟩ ⟨w.heap.size, j, none⟩ _ (by simp <;> omega)).trans hu) (by simp; omega)
  have a0 := cX 0 _ (by decide) x0
  have a1 := gY.cell u2 (by simp; omega)
  have a2 := cX 2 _ (by decide) x2
  have a3 := cX 3 _ (by decide) x3
  have HB := Lib.hid (hB'.trans ((gX.below (fun k hk => by simp at hk; omega) hB'.size).trans (gY.below (fun k hk => by simp at hk; omega) (by have := gX.size; have := hB'.size; omega))))
  have OY := Lib.hid oY
  have HX := Lib.hid hX
  have HY := Lib.hid hY
  have RY := Lib.hid (fun j (hj : j < 4) => And.intro (nX ⟨w.heap.size + 1, j, none⟩ rfl _ (R.out j hj).1) (fX ⟨w.heap.size + 1, j, none⟩ rfl (R.out j hj).2))
  have hi0 : (i : Int) < (s.boards.length : Int) := by omega
  have HG := Lib.hid hgg
  have HL := Lib.hid hl
  clear hs r1 hW0 hW3 hX hY K0 hB0 hB3 hB' KW o1 oX oY ow' hat hy gX gY nX fX cX hgg hg1 g1 g3 hs3 hsz hAg s1 R x2 x3 x0
  go_enter Try.func37, Try.ntmps37
  go_upto_region 1 with fail
  rw [HW0.out]
  go_upto_region 2 with (at_builtin; rw [HW3.out]; refine Lib.wpList_append_run _ rfl _ _ _ _ rfl _ _ rfl rfl _ W' R1.out ?_)
  rw [HX.out]
  clear x1 z1 y1
  go_upto_region 3 with fail
  rw [HY.out]
  clear u0 u1 u2
  have r0 := (RY.out 0 (by decide)).1
  have r1 := (RY.out 1 (by decide)).1
  have r2 := (RY.out 2 (by decide)).1
  have r3 := (RY.out 3 (by decide)).1
  have f0 := (RY.out 0 (by decide)).2
  have f1 := (RY.out 1 (by decide)).2
  have f2 := (RY.out 2 (by decide)).2
  have f3 := (RY.out 3 (by decide)).2
  go_wp2_with fail
  obtain ⟨Z, hZ⟩ : ∃ Z, (((Y.setCell ⟨w.heap.size + 1, 0, none⟩ (.slice A1 s.river.length c1)).setCell ⟨w.heap.size + 1, 1, none⟩ (.slice (some ⟨g, 0, none⟩) s.boards.length cg)).setCell ⟨w.heap.size + 1, 2, none⟩ (.slice A3 s.leaks.length c3)).setCell ⟨w.heap.size + 1, 3, none⟩ (.slice A4 s.losses.length c4) = Z := ⟨_, rfl⟩
  obtain ⟨p0, p1, p2, p3, gz⟩ := set4b r0 r1 r2 r3 _ _ _ _ hZ
  rw [hZ]
  clear hZ
  refine bodyPost_ret (v := .agg #[.slice A1 s.river.length c1, .slice (some ⟨g, 0, none⟩) s.boards.length cg, .slice A3 s.leaks.length c3, .slice A4 s.losses.length c4]) (by simp [results, Try.results37, go_sem, p0, p1, p2, p3]) rfl ?_
  have bz := HB.out.trans (gz.below (fun k hk => by simp at hk; omega) HB.out.size)
  have hZs : w.heap.size ≤ Z.heap.size := bz.size
  refine ⟨_, rfl, ⟨_, _, _, _, rfl, (HS.out.parts.1).up hZs bz, ?_, (HS.out.parts.2.2.1).up hZs bz, (HS.out.parts.2.2.2).up hZs bz⟩, bz⟩
  have := (OY.out.grown gz (fun b hb hm => by have := (OY.out.lt b hb).1; simp at hm; omega)).rr EI (by rw [List.length_set]; have := HL.out; show s.boards.length ≤ 1000000000000000; omega)
  exact this
end Go.Proofs.Ytkoacclbempmdaa

/- Contract of the law's given. -/
namespace Go.Proofs.Ytkoacclbempmdaa
open Go.RowKit

/-- A river whose numbers are turned where a list has 1, up to an index. -/
def givT (L r : List Int) (k : Int) : Nat → List Int
  | 0 => r
  | j + 1 => if L.getD j 0 = 1 then (givT L r k j).set j k else givT L r k j
theorem givT_len (L r : List Int) (k : Int) : ∀ j, (givT L r k j).length = r.length
  | 0 => rfl
  | j + 1 => by
    show (if L.getD j 0 = 1 then (givT L r k j).set j k else givT L r k j).length = _
    split
    · rw [List.length_set, givT_len L r k j]
    · exact givT_len L r k j
/-- What given keeps besides its list. -/
structure GvS (w : World) (g : Nat) (a b c d : Value) (W : World) : Prop where
  c0 : W.cell? ⟨w.heap.size, 0, none⟩ = some a
  c1 : W.cell? ⟨w.heap.size, 1, none⟩ = some b
  c2 : W.cell? ⟨w.heap.size, 2, none⟩ = some c
  c3 : W.cell? ⟨w.heap.size, 3, none⟩ = some d
  r : ∀ j, j < 4 → W.cell? ⟨w.heap.size + 1, j, none⟩ = some (.slice none 0 0)
  f : ∀ j, j < 4 → W.frozen? ⟨w.heap.size + 1, j, none⟩ = false
  bel : Below w.heap.size w W
  gl : w.heap.size + 2 ≤ g
theorem GvS.grown {w W W' : World} {g : Nat} {a b c d : Value} {bs : List Nat} (h : GvS w g a b c d W) (hg : GrownL bs W W') (hn : ∀ k ∈ bs, w.heap.size + 2 ≤ k) : GvS w g a b c d W' := by
  have n0 : w.heap.size ∉ bs := fun hm => by have := hn _ hm; omega
  have n1 : w.heap.size + 1 ∉ bs := fun hm => by have := hn _ hm; omega
  exact ⟨hg.cell h.c0 n0, hg.cell h.c1 n0, hg.cell h.c2 n0, hg.cell h.c3 n0, fun j hj => hg.cell (h.r j hj) n1, fun j hj => (World.frozen?_of_block (a := ⟨w.heap.size + 1, j, none⟩) (hg.block _ (World.block_lt_of_cell? _ _ (h.r j hj)) n1)).trans (h.f j hj), h.bel.trans (hg.below (fun k hk => by have := hn k hk; omega) h.bel.size), h.gl⟩

set_option maxHeartbeats 8000000 in
set_option maxRecDepth 1000000 in
theorem given_any (wv hv : Value) (s : Wa) (L : List Int) (k : Int) (w : World) (hs : RWa w.heap.size wv s w) (hh : RR encI w.heap.size hv L w) (hi : 0 < s.river.length) (hl : s.river.length ≤ 1000) (hL : L.length = s.river.length) :
    Calls Try.prog 39 #[wv, hv, .int .i64 k] w fun e w' => ∃ v, e = .returned v ∧ RWa w'.heap.size v ⟨givT L s.river k L.length, s.boards, s.leaks, s.losses⟩ w' ∧ Below w.heap.size w w' := by
  obtain ⟨Ah, ch, rfl⟩ := hh.slice
  obtain ⟨i0, hz0, hj0, hj1, hj2⟩ := info_parts infoInt
  obtain ⟨A1, c1, A2, c2, A3, c3, A4, c4, rfl⟩ := hs.form
  have HS := Lib.hid hs
  obtain ⟨W0, hW0⟩ : ∃ W0, ((w.alloc (.cells #[.slice A1 s.river.length c1, .slice A2 s.boards.length c2, .slice A3 s.leaks.length c3, .slice A4 s.losses.length c4] 27)).alloc (.cells #[.slice none 0 0, .slice none 0 0, .slice none 0 0, .slice none 0 0] 27)) = W0 := ⟨_, rfl⟩
  have hsz : W0.heap.size = w.heap.size + 2 := by rw [← hW0]; simp
  have hB0 : Below w.heap.size w W0 := by rw [← hW0]; exact ((Below.refl _ _).alloc (Nat.le_refl _) _).alloc (by simp) _
  have K0 : (∀ j u, [Value.slice A1 s.river.length c1, .slice A2 s.boards.length c2, .slice A3 s.leaks.length c3, .slice A4 s.losses.length c4][j]? = some u → W0.cell? ⟨w.heap.size, j, none⟩ = some u) ∧ (∀ j, W0.frozen? ⟨w.heap.size, j, none⟩ = false) ∧ (∀ j, j < 4 → W0.cell? ⟨w.heap.size + 1, j, none⟩ = some (.slice none 0 0)) ∧ ∀ j, W0.frozen? ⟨w.heap.size + 1, j, none⟩ = false := by
    rw [← hW0]
    refine ⟨fun j u hj => ?_, fun j => by simp [go_sem], fun j hj => ?_, fun j => by simp [go_sem]⟩
    · match j, hj with
      | 0, hj => simpa [go_sem] using hj
      | 1, hj => simpa [go_sem] using hj
      | 2, hj => simpa [go_sem] using hj
      | 3, hj => simpa [go_sem] using hj
      | j + 4, hj => simp at hj
    · match j, hj with
      | 0, _ => simp [go_sem]
      | 1, _ => simp [go_sem]
      | 2, _ => simp [go_sem]
      | 3, _ => simp [go_sem]
  obtain ⟨W3, hW3⟩ : ∃ W3, W0.alloc (.cells #[] 3) = W3 := ⟨_, rfl⟩
  have g3 : GrownL [] W0 W3 := by rw [← hW3]; exact GrownL.of_below ((Below.refl _ _).alloc (Nat.le_refl _) _)
  have hs3 : W3.heap.size = w.heap.size + 3 := by rw [← hW3]; simp [hsz]
  have hB3 : Below w.heap.size w W3 := hB0.trans (g3.below (by simp) hB0.size)
  obtain ⟨v', W', r1, o1, g1, s1⟩ := app_list (P := Try.prog) (base := w.heap.size + 2) EI Try.underlying25 hz0 hj0 hj1 hj2 rfl (OwnG.lit0 encI 1 3 (W := W3) (g := W0.heap.size) (by rw [← hW3]; exact World.alloc_heap_new W0 _) (by omega)) hs.parts.1 hB3 (by omega) (by simp) (by omega) (by decide)
  rw [List.nil_append] at o1
  have hg1 : ∀ k, k < w.heap.size + 2 → k ∉ (Value.slice (some ⟨W0.heap.size, 0, none⟩) 0 0).ownBlock.toList := fun k hk hm => by simp [Value.ownBlock] at hm; omega
  have hB' : Below w.heap.size w W' := hB3.trans (g1.below (fun k hk => by simp [Value.ownBlock] at hk; omega) hB3.size)
  have KW := fun (a : Addr) (ha : a.block < w.heap.size + 2) => And.intro (fun u (hu : W0.cell? a = some u) => g1.cell (g3.cell hu (by simp)) (hg1 _ ha)) (fun (hu : W0.frozen? a = false) => (World.frozen?_of_block (a := a) (g1.block _ (by omega) (hg1 _ ha))).trans ((World.frozen?_of_block (a := a) (g3.block _ (by omega) (by simp))).trans hu))
  obtain ⟨Ag, cg, rfl, hAg⟩ := o1.form
  obtain ⟨g, rfl⟩ := hAg (by omega)
  have hgg := o1.lt g rfl
  have x0 := (KW ⟨w.heap.size, 0, none⟩ (by show w.heap.size < _; omega)).1 _ (K0.1 0 _ rfl)
  have x1 := (KW ⟨w.heap.size, 1, none⟩ (by show w.heap.size < _; omega)).1 _ (K0.1 1 _ rfl)
  have x2 := (KW ⟨w.heap.size, 2, none⟩ (by show w.heap.size < _; omega)).1 _ (K0.1 2 _ rfl)
  have x3 := (KW ⟨w.heap.size, 3, none⟩ (by show w.heap.size < _; omega)).1 _ (K0.1 3 _ rfl)
  have z1 := (KW ⟨w.heap.size, 0, none⟩ (by show w.heap.size < _; omega)).2 (K0.2.1 0)
  have R := Lib.hid (fun j (hj : j < 4) => And.intro ((KW ⟨w.heap.size + 1, j, none⟩ (by show w.heap.size + 1 < _; omega)).1 _ (K0.2.2.1 j hj)) ((KW ⟨w.heap.size + 1, j, none⟩ (by show w.heap.size + 1 < _; omega)).2 (K0.2.2.2 j)))
  have y1 : (W0.alloc (.cells #[] 3)).cell? ⟨w.heap.size, 0, none⟩ = some (.slice A1 s.river.length c1) := by rw [hW3]; exact g3.cell (K0.1 0 _ rfl) (by simp)
  have R1 := Lib.hid r1
  have HW0 := Lib.hid hW0
  have HW3 := Lib.hid hW3
  -- behind the store of the list
  obtain ⟨X, hX⟩ : ∃ X, W'.setCell ⟨w.heap.size, 0, none⟩ (.slice (some ⟨g, 0, none⟩) s.river.length cg) = X := ⟨_, rfl⟩
  have gX : GrownL [w.heap.size] W' X := by rw [← hX]; exact GrownL.set _ _ _ (by simp)
  have oX := o1.grown gX (fun b hb hm => by simp [Value.ownBlock] at hb hm; omega)
  have u2 : X.cell? ⟨w.heap.size, 0, none⟩ = some (.slice (some ⟨g, 0, none⟩) s.river.length cg) := by rw [← hX]; exact World.cell?_setCell_same' _ _ _ (by rw [x0]; rfl)
  have cX : ∀ j u, j ≠ 0 → W'.cell? ⟨w.heap.size, j, none⟩ = some u → X.cell? ⟨w.heap.size, j, none⟩ = some u := fun j u hj hu => by rw [← hX]; exact (World.cell?_setCell_other _ ⟨w.heap.size, 0, none⟩ ⟨w.heap.size, j, none⟩ _ (by simp <;> omega)).trans hu
  have G0 : Hid (GvS w g (.slice (some ⟨g, 0, none⟩) s.river.length cg) (.slice A2 s.boards.length c2) (.slice A3 s.leaks.length c3) (.slice A4 s.losses.length c4) X) := Lib.hid ⟨u2, cX 1 _ (by decide) x1, cX 2 _ (by decide) x2, cX 3 _ (by decide) x3, fun j hj => gX.cell (R.out j hj).1 (by simp), fun j hj => (World.frozen?_of_block (a := ⟨w.heap.size + 1, j, none⟩) (gX.block _ (by show w.heap.size + 1 < _; omega) (by simp))).trans (R.out j hj).2, hB'.trans (gX.below (by simp) hB'.size), by omega⟩
  have O0 : Hid (OwnG encI 1 3 (w.heap.size + 2) (.slice (some ⟨g, 0, none⟩) s.river.length cg) s.river X) := Lib.hid oX
  have HX := Lib.hid hX
  have HL := Lib.hid hl
  have HH := Lib.hid hh
  have HLL := Lib.hid hL
  have hll : (L.length : Int) ≤ 1000 := by omega
  clear hs hh hL r1 hW0 hW3 hX K0 hB0 hB3 hB' KW o1 oX gX cX hgg hg1 g1 g3 hs3 hsz hAg s1 R x1 x2 x3 u2
  go_enter Try.func39, Try.ntmps39
  go_upto_region 1 with fail
  rw [HW0.out]
  go_upto_region 2 with (at_builtin; rw [HW3.out]; refine Lib.wpList_append_run _ rfl _ _ _ _ rfl _ _ rfl rfl _ W' R1.out ?_)
  rw [HX.out]
  clear x0 z1 y1
  go_wp2_with fail
  go_loopw [7] (fun i wr => ∃ j : Nat, i = .int .i64 j ∧ j ≤ L.length ∧ OwnG encI 1 3 (w.heap.size + 2) (.slice (some ⟨g, 0, none⟩) s.river.length cg) (givT L s.river k j) wr ∧ GvS w g (.slice (some ⟨g, 0, none⟩) s.river.length cg) (.slice A2 s.boards.length c2) (.slice A3 s.leaks.length c3) (.slice A4 s.losses.length c4) wr) (fun i _ => L.length - (intOf i).toNat)
  case atStart => exact ⟨0, rfl, by omega, O0.out, G0.out⟩
  case round =>
    obtain ⟨j, rfl, hj, hO, hG⟩ := hrel
    have OO := Lib.hid hO
    have GG := Lib.hid hG
    have x0 := hG.c0
    clear hO hG O0 G0
    by_cases hjl : j < L.length
    · have hj0 : (j : Int) < (L.length : Int) := by omega
      have hjr : (j : Int) < (s.river.length : Int) := by have := HLL.out; omega
      obtain ⟨x, hx⟩ : ∃ x, L[j]? = some x := ⟨_, List.getElem?_eq_getElem hjl⟩
      obtain ⟨bh, oh, rfl, hbh, q⟩ := (HH.out.up GG.out.bel.size GG.out.bel).int hx
      have hgl := givT_len L s.river k j
      have hxd : L.getD j 0 = x := by rw [List.getD_eq_getElem?_getD, hx]; rfl
      have HXD := Lib.hid hxd
      obtain ⟨y, hy⟩ : ∃ y, (givT L s.river k j)[j]? = some y := ⟨_, List.getElem?_eq_getElem (by rw [hgl]; have := HLL.out; omega)⟩
      have ow' : wr.ownsRow (w.heap.size + 2) 3 1 (.slice (some ⟨g, 0, none⟩) s.river.length cg) s.river.length ((givT L s.river k j).flatMap encI) := by have := OO.out; unfold OwnG at this; rwa [hgl] at this
      have hat : ((givT L s.river k j).flatMap encI)[j]? = some (.int .i64 y) := by have := EI.at_ (givT L s.river k j) j 0 y hy (by decide); rw [Nat.mul_one, Nat.add_zero] at this; exact this.trans rfl
      have u0 : wr.cell? ⟨g, j, none⟩ = some (.int .i64 y) := (World.ownsRow.cellAt ow' j (by have := HLL.out; omega)).trans hat
      have u1 := World.ownsRow.frozenAt ow' j
      obtain ⟨Y, hY⟩ : ∃ Y, wr.setCell ⟨g, j, none⟩ (.int .i64 k) = Y := ⟨_, rfl⟩
      have O2 : Hid (OwnG encI 1 3 (w.heap.size + 2) (.slice (some ⟨g, 0, none⟩) s.river.length cg) ((givT L s.river k j).set j k) Y) := Lib.hid (by rw [← hY]; exact OwnG.set1 OO.out hgl.symm j k)
      have G2 : Hid (GvS w g (.slice (some ⟨g, 0, none⟩) s.river.length cg) (.slice A2 s.boards.length c2) (.slice A3 s.leaks.length c3) (.slice A4 s.losses.length c4) Y) := Lib.hid (GG.out.grown (bs := [g]) (by rw [← hY]; exact GrownL.set _ _ _ (by simp)) (by have := GG.out.gl; simp; omega))
      have HY := Lib.hid hY
      clear hx hgl hxd hy ow' hat hY
      by_cases h1 : x = 1
      · have h1b : (x == 1) = true := by rw [beq_iff_eq]; exact h1
        have HE : Hid (givT L s.river k (j + 1) = (givT L s.river k j).set j k) := Lib.hid (by show (if L.getD j 0 = 1 then _ else _) = _; rw [HXD.out, if_pos h1])
        subst h1
        go_wp2_with fail
        rw [HY.out]
        go_roundw
        case rel => exact ⟨j + 1, by go_num, by omega, by rw [HE.out]; exact O2.out, G2.out⟩
        case measure => show L.length - ((j : Int) + 1).toNat < L.length - (j : Int).toNat; omega
      · have h1b : (x == 1) = false := by rw [beq_eq_false_iff_ne]; exact h1
        have HE : Hid (givT L s.river k (j + 1) = givT L s.river k j) := Lib.hid (by show (if L.getD j 0 = 1 then _ else _) = _; rw [HXD.out, if_neg h1])
        go_wp2_with fail
        go_roundw
        case rel => exact ⟨j + 1, by go_num, by omega, by rw [HE.out]; exact OO.out, GG.out⟩
        case measure => show L.length - ((j : Int) + 1).toNat < L.length - (j : Int).toNat; omega
    · have hj0 : (L.length : Int) ≤ (j : Int) := by omega
      obtain rfl : j = L.length := by omega
      have x1 := GG.out.c1
      have x2 := GG.out.c2
      have x3 := GG.out.c3
      have r0 := GG.out.r 0 (by decide)
      have r1 := GG.out.r 1 (by decide)
      have r2 := GG.out.r 2 (by decide)
      have r3 := GG.out.r 3 (by decide)
      have f0 := GG.out.f 0 (by decide)
      have f1 := GG.out.f 1 (by decide)
      have f2 := GG.out.f 2 (by decide)
      have f3 := GG.out.f 3 (by decide)
      go_wp2_with fail
      obtain ⟨Z, hZ⟩ : ∃ Z, (((wr.setCell ⟨w.heap.size + 1, 0, none⟩ (.slice (some ⟨g, 0, none⟩) s.river.length cg)).setCell ⟨w.heap.size + 1, 1, none⟩ (.slice A2 s.boards.length c2)).setCell ⟨w.heap.size + 1, 2, none⟩ (.slice A3 s.leaks.length c3)).setCell ⟨w.heap.size + 1, 3, none⟩ (.slice A4 s.losses.length c4) = Z := ⟨_, rfl⟩
      obtain ⟨p0, p1, p2, p3, gz⟩ := set4b r0 r1 r2 r3 _ _ _ _ hZ
      rw [hZ]
      clear hZ
      refine bodyPost_ret (v := .agg #[.slice (some ⟨g, 0, none⟩) s.river.length cg, .slice A2 s.boards.length c2, .slice A3 s.leaks.length c3, .slice A4 s.losses.length c4]) (by simp [results, Try.results39, go_sem, p0, p1, p2, p3]) rfl ?_
      have bz := GG.out.bel.trans (gz.below (fun k hk => by simp at hk; omega) GG.out.bel.size)
      have hZs : w.heap.size ≤ Z.heap.size := bz.size
      refine ⟨_, rfl, ⟨_, _, _, _, rfl, ?_, (HS.out.parts.2.1).up hZs bz, (HS.out.parts.2.2.1).up hZs bz, (HS.out.parts.2.2.2).up hZs bz⟩, bz⟩
      have := (OO.out.grown gz (fun b hb hm => by have := (OO.out.lt b hb).1; simp at hm; omega)).rr EI (by rw [givT_len]; have := HL.out; show s.river.length ≤ 1000000000000000; omega)
      exact this
end Go.Proofs.Ytkoacclbempmdaa

/- Plain mathematics: what flows with another board of an outlet, with another river of its head. -/
namespace Go.Proofs.Ytkoacclbempmdaa
open Go.RowKit

theorem getElem?_set_cases {α : Type} {l : List α} {i j : Nat} {k x : α} (h : (l.set i k)[j]? = some x) : (i = j ∧ x = k) ∨ (i ≠ j ∧ l[j]? = some x) := by
  by_cases e : i = j
  · subst e
    have hl := (List.getElem?_eq_some_iff.1 h).1
    rw [List.length_set] at hl
    rw [List.getElem?_set_self hl] at h
    cases h
    exact .inl ⟨rfl, rfl⟩
  · rw [List.getElem?_set_ne e] at h
    exact .inr ⟨e, h⟩
theorem river_up {ws : Wk} {s : Wa} {j : Nat} {k k' : Int} (hk : k ≤ k') (e : Nat → Nat) : UpS ws e (setR s j k) (setR s j k') where
  r i c x y hc hx hy _ := by
    rcases getElem?_set_cases hx with ⟨e1, rfl⟩ | ⟨e1, hx⟩
    · rcases getElem?_set_cases hy with ⟨_, rfl⟩ | ⟨e2, _⟩
      · exact hk
      · exact absurd e1 e2
    · rcases getElem?_set_cases hy with ⟨e2, _⟩ | ⟨_, hy⟩
      · exact absurd e2 e1
      · rw [hx] at hy; cases hy; exact Int.le_refl _
  b i p x y _ hx hy := by
    have : some x = some y := hx.symm.trans hy
    cases this
    exact ⟨fun _ => Int.le_refl _, fun _ => Int.le_refl _⟩
  k i p x y _ hx hy := by
    have : some x = some y := hx.symm.trans hy
    cases this
    exact ⟨fun _ => Int.le_refl _, fun _ => Int.le_refl _⟩
  l i p x y _ hx hy _ := by
    have : some x = some y := hx.symm.trans hy
    cases this
    exact Int.le_refl _
/-- More of the river gives no less. -/
theorem sendP_mono {ws : Wk} {s : Wa} (hw : WOk ws) (hs : WaOk ws s) {i : Nat} {p : Pl} (hp : (allP ws)[i]? = some p) (j : Nat) {want : Int} {k k' : Nat} (hk : k ≤ k') (h1 : k' ≤ 1048576) (h : sendP ws s want i j k = true) : sendP ws s want i j k' = true := by
  unfold sendP at h ⊢
  rw [decide_eq_true_iff] at h ⊢
  exact Int.le_trans h (flow_mono hw (setR_ok hs (by omega) (by omega)) (setR_ok hs (by omega) (by omega)) hp (river_up (by omega) _))
theorem board_up {ws : Wk} {s : Wa} (hs : WaOk ws s) {i : Nat} {p : Pl} (hp : (allP ws)[i]? = some p) {e : Nat → Nat} (he : p.n + 1 = e p.c) {k : Int} (hk : ∀ x, s.boards[i]? = some x → k ≤ x) : UpS ws e (setB s i k) s where
  r i c x y _ hx hy _ := by
    have : some x = some y := hx.symm.trans hy
    cases this
    exact Int.le_refl _
  b j q x y hq hx hy := by
    rcases getElem?_set_cases hx with ⟨rfl, rfl⟩ | ⟨_, hx⟩
    · rw [hp] at hq
      cases hq
      exact ⟨fun _ => hk y hy, fun h => by omega⟩
    · rw [hx] at hy; cases hy; exact ⟨fun _ => Int.le_refl _, fun _ => Int.le_refl _⟩
  k i p x y _ hx hy := by
    have : some x = some y := hx.symm.trans hy
    cases this
    exact ⟨fun _ => Int.le_refl _, fun _ => Int.le_refl _⟩
  l i p x y _ hx hy _ := by
    have : some x = some y := hx.symm.trans hy
    cases this
    exact Int.le_refl _
theorem board_down {ws : Wk} {s : Wa} (hs : WaOk ws s) {i : Nat} {p : Pl} (hp : (allP ws)[i]? = some p) {e : Nat → Nat} (he : p.n + 1 < e p.c) {k : Int} (hk : ∀ x, s.boards[i]? = some x → k ≤ x) : UpS ws e s (setB s i k) where
  r i c x y _ hx hy _ := by
    have : some x = some y := hx.symm.trans hy
    cases this
    exact Int.le_refl _
  b j q x y hq hx hy := by
    rcases getElem?_set_cases hy with ⟨rfl, rfl⟩ | ⟨_, hy⟩
    · rw [hp] at hq
      cases hq
      exact ⟨fun h => by omega, fun _ => hk x hx⟩
    · rw [hx] at hy; cases hy; exact ⟨fun _ => Int.le_refl _, fun _ => Int.le_refl _⟩
  k i p x y _ hx hy := by
    have : some x = some y := hx.symm.trans hy
    cases this
    exact ⟨fun _ => Int.le_refl _, fun _ => Int.le_refl _⟩
  l i p x y _ hx hy _ := by
    have : some x = some y := hx.symm.trans hy
    cases this
    exact Int.le_refl _
theorem board0_ok {ws : Wk} (hw : WOk ws) {s : Wa} (hs : WaOk ws s) {i : Nat} {p : Pl} (hp : (allP ws)[i]? = some p) : WaOk ws (setB s i 0) :=
  setB_ok hs hp (Int.le_refl _) (by have := (hw.ou hp).pl; omega)
/-- A lower board of an outlet gives it no more. -/
theorem board_less {ws : Wk} (hw : WOk ws) {s : Wa} (hs : WaOk ws s) {i : Nat} {p : Pl} (hp : (allP ws)[i]? = some p) : (flowF ws (setB s i 0)).thr.getD i 0 ≤ (flowF ws s).thr.getD i 0 :=
  flow_mono hw (board0_ok hw hs hp) hs hp (board_up hs hp (endE_at hw hp (pathOf_is hw (lt_total hp)).self_mem hp).symm (fun x hx => (hs.ob i p x hp hx).1))
/-- .. and those behind it on its carrier no less. -/
theorem board_behind {ws : Wk} (hw : WOk ws) {s : Wa} (hs : WaOk ws s) {i k c : Nat} (h0 : pre ws c ≤ i) (h1 : i < k) (h2 : k < pre ws (c + 1)) (hc : c < ws.length) : (flowF ws s).thr.getD k 0 ≤ (flowF ws (setB s i 0)).thr.getD k 0 := by
  have hps := pre_succ (List.getElem?_eq_getElem hc)
  have hle := pre_le ws (c + 1)
  obtain ⟨p, hp⟩ := at_total (ws := ws) (n := i) (by omega)
  obtain ⟨q, hq⟩ := at_total (ws := ws) (n := k) (by omega)
  have e1 : p.c = c := by
    have := pl_before hp (c := c + 1) (by omega)
    have := pl_behind hp (c := c) (by omega)
    omega
  have e2 : q.c = c := by
    have := pl_before hq (c := c + 1) (by omega)
    have := pl_behind hq (c := c) (by omega)
    omega
  obtain ⟨-, _, _, _, h3⟩ := allP_inv hp
  obtain ⟨-, _, _, _, h4⟩ := allP_inv hq
  have he := endE_at hw hq (pathOf_is hw (lt_total hq)).self_mem hq
  rw [e1] at h3
  rw [e2] at h4 he
  exact flow_mono hw hs (board0_ok hw hs hp) hq (board_down hs hp (by rw [e1, he]; omega) (fun x hx => (hs.ob i p x hp hx).1))

theorem head_first {ws : Wk} {c : Nat} (h : c ∈ headsN ws) : FstIs (fun o : Ou => o.into) (outs ws) (c : Int) (-1) := by
  refine .inr ⟨fun j o ho he => ?_, rfl⟩
  unfold headsN at h
  rw [List.mem_filter] at h
  have h2 := h.2
  unfold fedB at h2
  rw [Bool.not_eq_true', List.any_eq_false] at h2
  obtain ⟨p, hp⟩ := at_total (ws := ws) (n := j) (by have := (List.getElem?_eq_some_iff.1 ho).1; rw [outs_len] at this; exact this)
  have hop : p.o = o := by have := (outs_get hp).1; rw [ho] at this; cases this; rfl
  have := h2 p (List.mem_of_getElem? hp)
  rw [hop] at this
  simp [he] at this
/-- One head has a sign. -/
theorem one_head {ws : Wk} (hw : WOk ws) {i : Nat} {p : Pl} (hp : (allP ws)[i]? = some p) : headAt ws p.o.id < (headsN ws).length ∧ ∀ j, j < (headsN ws).length → ((sigH ws p.o.id).getD j 0 = 1 ↔ j = headAt ws p.o.id) := by
  have hP := pathOf_is hw (lt_total hp)
  obtain ⟨k0, r, q0, hl, hq, hf⟩ := hP.top
  have hm : k0 ∈ pathOf ws i := by rw [hl]; simp
  have hc0 : q0.c ∈ headsN ws := by
    unfold headsN
    rw [List.mem_filter]
    obtain ⟨-, os, h1, -, -⟩ := allP_inv hq
    refine ⟨List.mem_range.2 (List.getElem?_eq_some_iff.1 h1).1, ?_⟩
    rw [Bool.not_eq_true', Bool.eq_false_iff]
    intro hb
    unfold fedB at hb
    rw [List.any_eq_true] at hb
    obtain ⟨x, hx, e⟩ := hb
    rw [decide_eq_true_iff] at e
    rcases hf with ⟨_, _, _, _, _, h⟩ | ⟨hn, -⟩
    · omega
    · obtain ⟨j, hj⟩ := List.mem_iff_getElem?.1 hx
      exact hn j x.o (outs_get hj).1 e
  have sg : ∀ c ∈ headsN ws, sgH (endE ws p.o.id) c = if c = q0.c then 1 else 0 := fun c hc => by
    unfold sgH
    by_cases e : c = q0.c
    · subst e
      rw [endE_at hw hp hm hq, if_pos rfl]
      omega
    · rw [endE_none hw hp (fun k hk q hqk he => ?_), if_neg e]
      · rfl
      · have hf := head_first hc
        rw [← he] at hf
        have := hP.fed hw k hk q hqk hf
        rw [hl] at this
        simp at this
        subst this
        rw [hq] at hqk
        cases hqk
        exact e he.symm
  obtain ⟨j0, hj0⟩ := List.mem_iff_getElem?.1 hc0
  have hj0l := (List.getElem?_eq_some_iff.1 hj0).1
  have at_ : ∀ (j c : Nat), (headsN ws)[j]? = some c → (sigH ws p.o.id)[j]? = some (if c = q0.c then 1 else 0) := fun j c h => by
    unfold sigH
    rw [List.getElem?_map, h]
    simp only [Option.map_some]
    rw [sg c (List.mem_of_getElem? h)]
  have uniq : ∀ j : Nat, j < (headsN ws).length → ((sigH ws p.o.id).getD j 0 = 1 ↔ j = j0) := fun j hj => by
    obtain ⟨c, hc⟩ : ∃ c, (headsN ws)[j]? = some c := ⟨_, List.getElem?_eq_getElem hj⟩
    rw [List.getD_eq_getElem?_getD, at_ j c hc]
    simp only [Option.getD_some]
    constructor
    · intro h
      by_cases e : c = q0.c
      · subst e
        exact (List.getElem?_inj hj (headsN_nodup ws)).1 (hc.trans hj0.symm)
      · rw [if_neg e] at h
        omega
    · rintro rfl
      rw [hc] at hj0
      cases hj0
      rw [if_pos rfl]
  have hh : headAt ws p.o.id = j0 := by
    unfold headAt idxI
    have : (sigH ws p.o.id).idxOf? 1 = some j0 := by
      rw [List.idxOf?_eq_some_iff]
      have hlen : (sigH ws p.o.id).length = (headsN ws).length := by unfold sigH; rw [List.length_map]
      have e1 := at_ j0 q0.c hj0
      rw [if_pos rfl] at e1
      refine ⟨by omega, (List.getElem?_eq_some_iff.1 e1).2, fun j hj => ?_⟩
      have h2 := (uniq j (by omega)).1
      intro h3
      have : (sigH ws p.o.id).getD j 0 = 1 := by rw [List.getD_eq_getElem?_getD, List.getElem?_eq_getElem (by omega)]; exact h3
      have := h2 this
      omega
    rw [this]
    rfl
  rw [hh]
  exact ⟨hj0l, uniq⟩
theorem givT_one {L r : List Int} {k : Int} {j0 : Nat} (h : ∀ j, j < L.length → (L.getD j 0 = 1 ↔ j = j0)) : ∀ n, n ≤ L.length → givT L r k n = if j0 < n then r.set j0 k else r
  | 0, _ => by rw [if_neg (by omega)]; rfl
  | n + 1, hn => by
    show (if L.getD n 0 = 1 then (givT L r k n).set n k else givT L r k n) = _
    rw [givT_one h n (by omega)]
    by_cases e : n = j0
    · subst e
      rw [if_pos ((h n (by omega)).2 rfl), if_neg (by omega), if_pos (by omega)]
    · rw [if_neg (fun hh => e ((h n (by omega)).1 hh))]
      by_cases e2 : j0 < n
      · rw [if_pos e2, if_pos (by omega)]
      · rw [if_neg e2, if_neg (by omega)]
theorem given_setR {ws : Wk} (hw : WOk ws) {s : Wa} {i : Nat} {p : Pl} (hp : (allP ws)[i]? = some p) (k : Int) : (⟨givT (sigH ws p.o.id) s.river k (sigH ws p.o.id).length, s.boards, s.leaks, s.losses⟩ : Wa) = setR s (headAt ws p.o.id) k := by
  obtain ⟨h1, h2⟩ := one_head hw hp
  have hlen : (sigH ws p.o.id).length = (headsN ws).length := by unfold sigH; rw [List.length_map]
  unfold setR
  rw [givT_one (fun j hj => h2 j (by omega)) _ (Nat.le_refl _), if_pos (by omega)]
end Go.Proofs.Ytkoacclbempmdaa

/- Contracts of the laws' place and up. -/
namespace Go.Proofs.Ytkoacclbempmdaa
open Go.RowKit

/-- None of the first outlets has an ID. -/
def NoId (ws : Wk) (id : Int) (n : Nat) : Prop := ∀ (j : Nat) (o : Ou), j < n → (outs ws)[j]? = some o → o.id ≠ id
theorem NoId.succ {ws : Wk} {id : Int} {n : Nat} (h : NoId ws id n) {o : Ou} (ho : (outs ws)[n]? = some o) (hi : o.id ≠ id) : NoId ws id (n + 1) := fun j o' hj ho' => by
  rcases Nat.lt_or_ge j n with h' | h'
  · exact h j o' h' ho'
  · obtain rfl : j = n := by omega
    rw [ho] at ho'
    cases ho'
    exact hi
set_option maxHeartbeats 8000000 in
set_option maxRecDepth 1000000 in
theorem place_any (A : Option Addr) (c : Nat) (ws : Wk) (id r : Int) (w : World) (h : RK w.heap.size (.slice A ws.length c) ws w) (ht : total ws ≤ 100000) (hl : ws.length ≤ 100000) (hr : FstIs (fun o : Ou => o.id) (outs ws) id r) :
    Calls Try.prog 26 #[.agg #[.slice A ws.length c], .int .i64 id] w fun e w' => e = .returned (.int .i64 r) ∧ Below w.heap.size w w' := by
  have H := Lib.hid h
  have HR := Lib.hid hr
  have S0 := Lib.hid (Wd.new (w := w) (v := .slice A ws.length c) 24)
  clear h hr
  go_enter Try.func26, Try.ntmps26
  go_wp2_with fail
  go_loopw [5, 6] (fun n i wr => ∃ k : Nat, i = .int .i64 k ∧ k ≤ ws.length ∧ n = .int .i64 (pre ws k) ∧ NoId ws id (pre ws k) ∧ Wd w (.slice A ws.length c) wr) (fun _ i _ => ws.length - (intOf i).toNat)
  case atStart => exact ⟨0, rfl, by omega, by rw [pre_zero]; rfl, fun j o hj => by rw [pre_zero] at hj; omega, S0.out⟩
  case round =>
    obtain ⟨k, rfl, hk, rfl, hno, hS⟩ := hrel
    have S := Lib.hid hS
    have t0 := hS.c
    have HNO := Lib.hid hno
    clear hS hno S0
    by_cases hkl : k < ws.length
    · have hk0 : (k : Int) < (ws.length : Int) := by omega
      obtain ⟨os, hos⟩ : ∃ os, ws[k]? = some os := ⟨_, List.getElem?_eq_getElem hkl⟩
      have HOS := Lib.hid hos
      clear hos
      go_wp2_with fail
      go_loopw [5, 7] (fun n i wy => ∃ j : Nat, i = .int .i64 j ∧ j ≤ os.length ∧ n = .int .i64 ((pre ws k + j : Nat) : Int) ∧ NoId ws id (pre ws k + j) ∧ Wd w (.slice A ws.length c) wy) (fun _ i _ => os.length - (intOf i).toNat)
      case atStart => exact ⟨0, rfl, by omega, rfl, HNO.out, S.out⟩
      case round =>
        obtain ⟨j, rfl, hj, rfl, hno, hS⟩ := hrel
        have S := Lib.hid hS
        have t0 := hS.c
        have KR := Lib.hid (H.out.up hS.siz hS.bel)
        have HNO := Lib.hid hno
        clear hS hno
        obtain ⟨b, o, hA, hbB, u, hu, A1_, c1_, hu2, hou⟩ := rk_at KR.out HOS.out
        subst hA hu2
        by_cases hjl : j < os.length
        · have hj0 : (j : Int) < (os.length : Int) := by omega
          obtain ⟨p, hp⟩ : ∃ p, os[j]? = some p := ⟨_, List.getElem?_eq_getElem hjl⟩
          obtain ⟨b1, o1, hA1, -, hc1⟩ := ro_at hou hp
          subst hA1
          have q1 := hc1.id
          have HO := Lib.hid (outs_get (allP_get HOS.out hp)).1
          have hnl := pre_lt HOS.out hjl
          have hjm : ((pre ws k + j : Nat) : Int) ≤ 100000 := by omega
          have hjn : (j : Int) ≤ 100000 := by omega
          clear hc1 hp hnl
          by_cases hi : p.id = id
          · have HE := Lib.hid (HR.out.at_ HNO.out HO.out hi)
            obtain ⟨n, hn⟩ : ∃ n, pre ws k + j = n := ⟨_, rfl⟩
            rw [hn] at HE hjm ⊢
            clear hn
            go_wp2_with fail
            go_ret
            exact ⟨by have := HE.out; subst this; first | rfl | trivial, S.out.bel⟩
          · have HN2 := Lib.hid (HNO.out.succ HO.out hi)
            obtain ⟨n, hn⟩ : ∃ n, pre ws k + j = n := ⟨_, rfl⟩
            have HN := Lib.hid hn
            rw [hn] at HN2 hjm ⊢
            clear hn
            go_wp2_with fail
            go_roundw
            case rel => exact ⟨j + 1, by go_num, by omega, by rw [← Nat.add_assoc, HN.out]; go_num, by rw [← Nat.add_assoc, HN.out]; exact HN2.out, S.out⟩
            case measure => show os.length - ((j : Int) + 1).toNat < os.length - (j : Int).toNat; omega
        · have hj0 : (os.length : Int) ≤ (j : Int) := by omega
          obtain rfl : j = os.length := by omega
          have hps := pre_succ HOS.out
          rw [← hps] at HNO ⊢
          clear hps hou
          go_wp2_with fail
          go_roundw
          case rel => exact ⟨k + 1, by go_num, by omega, rfl, HNO.out, S.out⟩
          case measure => show ws.length - ((k : Int) + 1).toNat < ws.length - (k : Int).toNat; omega
    · have hk0 : (ws.length : Int) ≤ (k : Int) := by omega
      obtain rfl : k = ws.length := by omega
      have HE : Hid (r = -1) := Lib.hid (HR.out.none_ (fun j o ho => HNO.out j o (by have := (List.getElem?_eq_some_iff.1 ho).1; rwa [outs_len] at this) ho))
      go_wp2_with fail
      go_ret
      exact ⟨by have := HE.out; subst this; first | rfl | trivial, S.out.bel⟩

/-- Whether all numbers of a second list, times signs, are at least those of a first one. -/
def upB (g a b : List Int) : Bool := decide (∀ i, i < g.length → g.getD i 0 * a.getD i 0 ≤ g.getD i 0 * b.getD i 0)
set_option maxHeartbeats 8000000 in
set_option maxRecDepth 1000000 in
theorem up_any (gv av bv : Value) (g a b : List Int) (w : World) (hg : RR encI w.heap.size gv g w) (ha : RR encI w.heap.size av a w) (hb : RR encI w.heap.size bv b w) (hl : g.length ≤ 1000000) (h1 : a.length = g.length) (h2 : b.length = g.length)
    (bg : ∀ x ∈ g, -1 ≤ x ∧ x ≤ 1) (ba : ∀ x ∈ a, -1000000000 ≤ x ∧ x ≤ 1000000000) (bb : ∀ x ∈ b, -1000000000 ≤ x ∧ x ≤ 1000000000) :
    Calls Try.prog 34 #[gv, av, bv] w fun e w' => e = .returned (.bool (upB g a b)) ∧ Below w.heap.size w w' := by
  obtain ⟨A0, c0, rfl⟩ := hg.slice
  obtain ⟨A1, c1, rfl⟩ := ha.slice
  obtain ⟨A2, c2, rfl⟩ := hb.slice
  have HG := Lib.hid hg
  have HA := Lib.hid ha
  have HB := Lib.hid hb
  have BG := Lib.hid bg
  have BA := Lib.hid ba
  have BB := Lib.hid bb
  have hll : (g.length : Int) ≤ 1000000 := by omega
  obtain ⟨na, hna⟩ : ∃ n, a.length = n := ⟨_, rfl⟩
  obtain ⟨nb, hnb⟩ : ∃ n, b.length = n := ⟨_, rfl⟩
  have LA := Lib.hid (hna.symm.trans h1)
  have LB := Lib.hid (hnb.symm.trans h2)
  have NA := Lib.hid hna
  have NB := Lib.hid hnb
  rw [hna, hnb]
  obtain ⟨R, hR⟩ : ∃ R, upB g a b = R := ⟨_, rfl⟩
  have HRR := Lib.hid hR
  rw [hR]
  clear hg ha hb bg ba bb h1 h2 hna hnb hR
  go_enter Try.func34, Try.ntmps34
  go_wp2_with fail
  go_loopw [7] (fun k wr => ∃ i : Nat, k = .int .i64 i ∧ i ≤ g.length ∧ (∀ j, j < i → g.getD j 0 * a.getD j 0 ≤ g.getD j 0 * b.getD j 0) ∧ Below w.heap.size w wr) (fun k _ => g.length - (intOf k).toNat)
  case atStart => exact ⟨0, rfl, by omega, fun j hj => by omega, Below.refl _ _⟩
  case round =>
    obtain ⟨i, rfl, hi, hok, hb⟩ := hrel
    have HBL := Lib.hid hb
    have HOK := Lib.hid hok
    clear hok
    by_cases hil : i < g.length
    · have hi0 : (i : Int) < (g.length : Int) := by omega
      have hia : (i : Int) < (na : Int) := by have := LA.out; omega
      have hib : (i : Int) < (nb : Int) := by have := LB.out; omega
      obtain ⟨x, hx⟩ : ∃ x, g[i]? = some x := ⟨_, List.getElem?_eq_getElem hil⟩
      obtain ⟨y, hy⟩ : ∃ y, a[i]? = some y := ⟨_, List.getElem?_eq_getElem (by rw [NA.out]; omega)⟩
      obtain ⟨z, hz⟩ : ∃ z, b[i]? = some z := ⟨_, List.getElem?_eq_getElem (by rw [NB.out]; omega)⟩
      obtain ⟨b0, o0, rfl, -, q0⟩ := (HG.out.up hb.size hb).int hx
      obtain ⟨b1, o1, rfl, -, q1⟩ := (HA.out.up hb.size hb).int hy
      obtain ⟨b2, o2, rfl, -, q2⟩ := (HB.out.up hb.size hb).int hz
      have hx0 := BG.out x (List.mem_of_getElem? hx)
      have hy0 := BA.out y (List.mem_of_getElem? hy)
      have hz0 := BB.out z (List.mem_of_getElem? hz)
      have hW1 : IntKind.i64.wrap (x * y) = x * y := IntWalk.i64_in _ (by
        rcases (by omega : x = -1 ∨ x = 0 ∨ x = 1) with rfl | rfl | rfl <;> omega)
      have hW2 : IntKind.i64.wrap (x * z) = x * z := IntWalk.i64_in _ (by
        rcases (by omega : x = -1 ∨ x = 0 ∨ x = 1) with rfl | rfl | rfl <;> omega)
      have HX : Hid (g.getD i 0 = x ∧ a.getD i 0 = y ∧ b.getD i 0 = z) := Lib.hid ⟨by rw [List.getD_eq_getElem?_getD, hx]; rfl, by rw [List.getD_eq_getElem?_getD, hy]; rfl, by rw [List.getD_eq_getElem?_getD, hz]; rfl⟩
      clear hx hy hz hb hx0 hy0 hz0
      obtain ⟨P1, hP1⟩ : ∃ P, x * y = P := ⟨_, rfl⟩
      obtain ⟨P2, hP2⟩ : ∃ P, x * z = P := ⟨_, rfl⟩
      have HP1 := Lib.hid hP1
      have HP2 := Lib.hid hP2
      rw [hP1] at hW1
      rw [hP2] at hW2
      by_cases hlt : P2 < P1
      · have HF : Hid (R = false) := Lib.hid (by
          rw [← HRR.out]
          unfold upB
          rw [decide_eq_false_iff_not]
          intro hh
          have := hh i hil
          rw [HX.out.1, HX.out.2.1, HX.out.2.2, HP1.out, HP2.out] at this
          omega)
        go_wp2_with fail
        go_quiet (fail)
        go_wp2_with fail
        go_ret
        exact ⟨by have := HF.out; subst this; first | rfl | trivial, below_drewN HBL.out _⟩
      · have HLE : Hid (g.getD i 0 * a.getD i 0 ≤ g.getD i 0 * b.getD i 0) := Lib.hid (by rw [HX.out.1, HX.out.2.1, HX.out.2.2, HP1.out, HP2.out]; omega)
        go_wp2_with fail
        go_quiet (fail)
        go_wp2_with fail
        go_roundw
        case rel => exact ⟨i + 1, by go_num, by omega, fun j hj => by
          rcases Nat.lt_or_ge j i with h | h
          · exact HOK.out j h
          · obtain rfl : j = i := by omega
            exact HLE.out, below_drewN HBL.out _⟩
        case measure => show g.length - ((i : Int) + 1).toNat < g.length - (i : Int).toNat; omega
    · have hi0 : (g.length : Int) ≤ (i : Int) := by omega
      obtain rfl : i = g.length := by omega
      have HF : Hid (R = true) := Lib.hid (by
        rw [← HRR.out]
        unfold upB
        rw [decide_eq_true_iff]
        exact HOK.out)
      go_wp2_with fail
      go_ret
      exact ⟨by have := HF.out; subst this; first | rfl | trivial, hb⟩
end Go.Proofs.Ytkoacclbempmdaa

/- Contract of Path. -/
namespace Go.Proofs.Ytkoacclbempmdaa
open Go.RowKit

theorem id_wf {ws : Wk} (hw : WOk ws) {n : Nat} {p : Pl} (hp : (allP ws)[n]? = some p) : (Lit.int .i64 p.o.id).wf = true := by
  have := hw.ou hp
  have h3 := this.i0
  have h4 := this.i1
  have m0 : IntKind.i64.min = -9223372036854775808 := rfl
  have m1 : IntKind.i64.max = 9223372036854775807 := rfl
  simp only [Lit.wf, m0, m1, Bool.and_eq_true, decide_eq_true_eq]
  omega
theorem fst_id {ws : Wk} {id : Int} {n : Nat} {p : Pl} (hf : FstIs (fun o : Ou => o.id) (outs ws) id n) (hp : (allP ws)[n]? = some p) : p.o.id = id := by
  rcases hf with ⟨k, o, ho, he, _, hk⟩ | ⟨_, h⟩
  · obtain rfl : n = k := by omega
    rw [(outs_get hp).1] at ho
    cases ho
    exact he
  · omega
theorem byId_all {ws : Wk} (hw : WOk ws) {n : Nat} {p : Pl} (hp : (allP ws)[n]? = some p) : byIdS ws (allP ws) p.o.id = pathV ws n := by
  have := byIdS_at hw (lt_total hp) hp
  rwa [List.take_of_length_le (by rw [allP_len]; exact Nat.le_refl _)] at this
def PathPost (d : Int) (M : List Int) (w : World) (e : Ending) (w' : World) : Prop := ∃ u, e = .returned (.tuple #[u, .int .i64 d]) ∧ OwnG encI 1 3 w.heap.size u M w' ∧ Below w.heap.size w w'
set_option maxHeartbeats 8000000 in
set_option maxRecDepth 1000000 in
theorem Path_any (v : Value) (ws : Wk) (id d : Int) (M : List Int) (w : World) (h : RK w.heap.size v ws w) (ht : total ws ≤ 100000) (hc : PathR ws id d M) :
    Calls Try.prog 50 #[.agg #[v], .int .i64 id] w (PathPost d M w) := by
  obtain ⟨A, c, rfl, -⟩ := (show ∃ A c, v = .slice A ws.length c ∧ True by obtain ⟨A, c, e, _⟩ := h; exact ⟨A, c, e, trivial⟩)
  obtain ⟨i, hk, hc⟩ := hc
  have C1 := Lib.hid fun W (S : Wd w (.slice A ws.length c) W) => checkOutlet_any (.slice A ws.length c) ws id i d W (h.up S.siz S.bel) ht hk
  have C2 := Lib.hid fun (hw : WOk ws) W (S : Wd w (.slice A ws.length c) W) => paths_any A c ws W (h.up S.siz S.bel) hw
  have S0 := Lib.hid (Wd.new (w := w) (v := .slice A ws.length c) 24)
  have HK := Lib.hid hk
  have HC := Lib.hid hc
  clear h hk hc
  go_enter Try.func50, Try.ntmps50
  go_wp2_with fail
  refine (C1.out _ S0.out).mono ?_
  rintro e w1 ⟨rfl, b1⟩
  have S := Lib.hid (S0.out.below b1)
  clear b1
  by_cases h0 : d = 0
  rotate_left
  · have hdb : (d != 0) = true := by rw [bne_iff_ne]; exact h0
    have HM : Hid (M = []) := Lib.hid (by rcases HC.out with ⟨_, h⟩ | ⟨h, _⟩; exact h; exact absurd h h0)
    go_wp2_with fail
    refine bodyPost_ret (results_tmp2 rfl _ _ _) rfl ?_
    exact ⟨_, rfl, by rw [HM.out]; exact OwnG.nil _ _ _ _ _, S.out.bel⟩
  subst h0
  obtain ⟨n, p, rfl, hf, hp⟩ := HK.out.at_
  have hw := HK.out.chk.1
  have HW := Lib.hid hw
  obtain rfl := fst_id hf hp
  have HWF := Lib.hid (id_wf hw hp)
  have HM : Hid (M = byIdS ws (allP ws) p.o.id) := Lib.hid (by
    rcases HC.out with ⟨h, _⟩ | ⟨_, k, L, hk, hL, rfl⟩
    · exact absurd rfl h
    · obtain rfl : n = k := by omega
      rw [byId_all hw hp]
      unfold pathV
      rw [pathOf_eq hw hL])
  have x0 := S.out.c
  clear hw hf hp HC
  go_wp2_with fail
  refine (C2.out HW.out _ S.out).mono ?_
  rintro e w2 ⟨rfl, hpm, b2⟩
  have S2 := Lib.hid (S.out.below b2)
  obtain ⟨u, hu, hrun⟩ := hpm.look p.o.id HWF.out
  have HU := Lib.hid hu
  have hrun2 := hrun w2 rfl
  clear b2 x0 hpm hrun hu
  go_wp2_with fail
  refine bodyPost_ret (results_tmp2 rfl _ _ _) rfl ?_
  exact ⟨u, rfl, by rw [HM.out]; exact HU.out.low (by have := S.out.siz; omega), S2.out.bel⟩
end Go.Proofs.Ytkoacclbempmdaa

/- Contract of Signs. -/
namespace Go.Proofs.Ytkoacclbempmdaa
open Go.RowKit

def SignsR (ws : Wk) (id d : Int) (w : World) (e : Ending) (w' : World) : Prop := ∃ u1 u2 u3, e = .returned (.tuple #[u1, u2, u3, .int .i64 d]) ∧ OwnG encI 1 3 w.heap.size u1 (okL d (sigH ws id)) w' ∧ OwnG encI 1 3 w.heap.size u2 (okL d (sigO ws id)) w' ∧ OwnG encI 1 3 w.heap.size u3 (okL d (sigR ws id)) w' ∧ Below w.heap.size w w'
set_option maxHeartbeats 8000000 in
set_option maxRecDepth 1000000 in
theorem Signs_any (v : Value) (ws : Wk) (id i d : Int) (w : World) (h : RK w.heap.size v ws w) (ht : total ws ≤ 100000) (hk : KnownIs ws id i d) :
    Calls Try.prog 33 #[.agg #[v], .int .i64 id] w (SignsR ws id d w) := by
  obtain ⟨A, c, rfl, -⟩ := (show ∃ A c, v = .slice A ws.length c ∧ True by obtain ⟨A, c, e, _⟩ := h; exact ⟨A, c, e, trivial⟩)
  have C1 := Lib.hid fun W (S : Wd w (.slice A ws.length c) W) => checkOutlet_any (.slice A ws.length c) ws id i d W (h.up S.siz S.bel) ht hk
  have C2 := Lib.hid fun (hw : WOk ws) (hid : (Lit.int .i64 id).wf = true) W (S : Wd w (.slice A ws.length c) W) => signsOf_any A c ws id W (h.up S.siz S.bel) hw hid
  have S0 := Lib.hid (Wd.new (w := w) (v := .slice A ws.length c) 24)
  have HK := Lib.hid hk
  clear h hk
  go_enter Try.func33, Try.ntmps33
  go_wp2_with fail
  refine (C1.out _ S0.out).mono ?_
  rintro e w1 ⟨rfl, b1⟩
  have S := Lib.hid (S0.out.below b1)
  clear b1
  by_cases h0 : d = 0
  rotate_left
  · have hdb : (d != 0) = true := by rw [bne_iff_ne]; exact h0
    have H0 := Lib.hid h0
    go_wp2_with fail
    refine bodyPost_ret (v := .tuple #[.slice none 0 0, .slice none 0 0, .slice none 0 0, .int .i64 d]) (by simp [results, Try.results33, go_sem]) rfl ?_
    exact ⟨_, _, _, rfl, by rw [okL_ne H0.out]; exact OwnG.nil _ _ _ _ _, by rw [okL_ne H0.out]; exact OwnG.nil _ _ _ _ _, by rw [okL_ne H0.out]; exact OwnG.nil _ _ _ _ _, S.out.bel⟩
  subst h0
  obtain ⟨n, p, rfl, hf, hp⟩ := HK.out.at_
  have hw := HK.out.chk.1
  have hpid := fst_id hf hp
  have HW := Lib.hid hw
  have HWF : Hid ((Lit.int .i64 id).wf = true) := Lib.hid (by rw [← hpid]; exact id_wf hw hp)
  have x0 := S.out.c
  clear hw hf hp hpid
  go_wp2_with fail
  refine (C2.out HW.out HWF.out _ S.out).mono ?_
  rintro e w2 ⟨v1, v2, v3, rfl, o1, o2, o3, b2⟩
  have S2 := Lib.hid (S.out.below b2)
  obtain ⟨A1, c1, rfl, -⟩ := o1.form
  obtain ⟨A2, c2, rfl, -⟩ := o2.form
  obtain ⟨A3, c3, rfl, -⟩ := o3.form
  obtain ⟨l1, hl1⟩ : ∃ l, sigH ws id = l := ⟨_, rfl⟩
  obtain ⟨l2, hl2⟩ : ∃ l, sigO ws id = l := ⟨_, rfl⟩
  obtain ⟨l3, hl3⟩ : ∃ l, sigR ws id = l := ⟨_, rfl⟩
  have HL := Lib.hid (And.intro hl1 (And.intro hl2 hl3))
  rw [hl1] at o1 ⊢
  rw [hl2] at o2 ⊢
  rw [hl3] at o3 ⊢
  obtain ⟨W3, hW3⟩ : ∃ W3, w2.alloc (.cells #[.slice A1 l1.length c1, .slice A2 l2.length c2, .slice A3 l3.length c3] 138) = W3 := ⟨_, rfl⟩
  have b3 : Below w2.heap.size w2 W3 := by rw [← hW3]; exact (Below.refl _ _).alloc (Nat.le_refl _) _
  have hws : w.heap.size ≤ w1.heap.size := S.out.siz
  have O1 := Lib.hid ((o1.below b3).low hws)
  have O2 := Lib.hid ((o2.below b3).low hws)
  have O3 := Lib.hid ((o3.below b3).low hws)
  have S3 := Lib.hid (S2.out.below b3)
  have Y : Hid (W3.cell? ⟨w2.heap.size, 0, none⟩ = some (.slice A1 l1.length c1) ∧ W3.cell? ⟨w2.heap.size, 1, none⟩ = some (.slice A2 l2.length c2) ∧ W3.cell? ⟨w2.heap.size, 2, none⟩ = some (.slice A3 l3.length c3)) := Lib.hid (by rw [← hW3]; exact ⟨by simp [go_sem], by simp [go_sem], by simp [go_sem]⟩)
  have HW3 := Lib.hid hW3
  clear o1 o2 o3 b2 b3 hW3 hl1 hl2 hl3 x0 hws
  go_upto_region 5 with fail
  rw [HW3.out]
  obtain ⟨y0, y1, y2⟩ := Y.out
  go_quiet (fail)
  go_wp2_with fail
  refine bodyPost_ret (v := .tuple #[.slice A1 l1.length c1, .slice A2 l2.length c2, .slice A3 l3.length c3, .int .i64 0]) (by simp [results, Try.results33, go_sem]) rfl ?_
  exact ⟨_, _, _, rfl, by rw [okL_zero, HL.out.1]; exact O1.out.below (below_drewN (Below.refl _ _) _), by rw [okL_zero, HL.out.2.1]; exact O2.out.below (below_drewN (Below.refl _ _) _), by rw [okL_zero, HL.out.2.2]; exact O3.out.below (below_drewN (Below.refl _ _) _), below_drewN S3.out.bel _⟩

end Go.Proofs.Ytkoacclbempmdaa

/- Contract of the laws' wet. -/
namespace Go.Proofs.Ytkoacclbempmdaa
open Go.RowKit

def WetPost (s : Wa) (w : World) (e : Ending) (w' : World) : Prop := ∃ b, e = .returned (.bool b) ∧ (b = true → s.river.length ≤ 100 ∧ s.boards.length ≤ 100 ∧ s.leaks.length ≤ 100 ∧ s.losses.length ≤ 100) ∧ Below w.heap.size w w'
set_option maxHeartbeats 8000000 in
set_option maxRecDepth 1000000 in
theorem wet_any (v : Value) (s : Wa) (w : World) (h : RWa w.heap.size v s w) : Calls Try.prog 19 #[v] w (WetPost s w) := by
  obtain ⟨A1, c1, A2, c2, A3, c3, A4, c4, rfl⟩ := h.form
  clear h
  have hs : (100 : Int) < (s.river.length : Int) ∨ ((s.river.length : Int) ≤ 100 ∧ (100 : Int) < (s.boards.length : Int)) ∨ ((s.river.length : Int) ≤ 100 ∧ (s.boards.length : Int) ≤ 100 ∧ (100 : Int) < (s.leaks.length : Int)) ∨ ((s.river.length : Int) ≤ 100 ∧ (s.boards.length : Int) ≤ 100 ∧ (s.leaks.length : Int) ≤ 100 ∧ (100 : Int) < (s.losses.length : Int)) ∨ ((s.river.length : Int) ≤ 100 ∧ (s.boards.length : Int) ≤ 100 ∧ (s.leaks.length : Int) ≤ 100 ∧ (s.losses.length : Int) ≤ 100) := by omega
  have HB : Hid (Below w.heap.size w (w.alloc (.cells #[.slice A1 s.river.length c1, .slice A2 s.boards.length c2, .slice A3 s.leaks.length c3, .slice A4 s.losses.length c4] 27))) := Lib.hid ((Below.refl _ _).alloc (Nat.le_refl _) _)
  rcases hs with h1 | ⟨h1, h2⟩ | ⟨h1, h2, h3⟩ | ⟨h1, h2, h3, h4⟩ | ⟨h1, h2, h3, h4⟩
  all_goals
    go_enter Try.func19, Try.ntmps19
    go_wp2_with fail
    go_ret
    first
      | exact ⟨false, rfl, (fun h => by cases h), HB.out⟩
      | exact ⟨true, rfl, (fun _ => by omega), HB.out⟩
      | exact ⟨_, rfl, (fun h => by have := of_decide_eq_true h; omega), HB.out⟩

end Go.Proofs.Ytkoacclbempmdaa
