/- The law CarrierSigns (promise 2.4: Signs returns what the specification returns) returns true for every works and every ID, and leaves them as they read.
   Conditions: none beyond the given row's own (the program at the commit in COMMIT; arguments that lie in memory as the row says). -/
import Derived.Test.YtmmbmnihhdhbeaaGZD
import Derived.Test.YtmmbmnihhdhbeaaOO6
import Derived.Test.YtmmbmnihhdhbeaaGJ
import Derived.Test.YtmmbmnihhdhbeaaGZF
import Derived.Test.YtmmbmnihhdhbeaaGI
import Derived.Maps.AppendAt
import Derived.Test.YtmmbmnihhdhbeaaGZL
namespace Go.Proofs.Ytmmbmnihhdhbeaa
open Go.RowKit

theorem id_wf {ws : Wk} (hw : WOk ws) {n : Nat} {p : Pl} (hp : (allP ws)[n]? = some p) : (Lit.int .i64 p.o.id).wf = true := by
  have := hw.ou hp
  have h3 := this.i0
  have h4 := this.i1
  have m0 : IntKind.i64.min = -9223372036854775808 := rfl
  have m1 : IntKind.i64.max = 9223372036854775807 := rfl
  simp only [Lit.wf, m0, m1, Bool.and_eq_true, decide_eq_true_eq]
  omega
theorem fst_id {ws : Wk} {id : Int} {n : Nat} {p : Pl} (hf : FstIs (fun o : Ou => o.id) (outs ws) id n) (hp : (allP ws)[n]? = some p) : p.o.id = id := by
  rcases hf with ⟨k, o, ho, he, _, hk⟩ | ⟨_, h⟩
  · obtain rfl : n = k := by omega
    rw [(outs_get hp).1] at ho
    cases ho
    exact he
  · omega
theorem byId_all {ws : Wk} (hw : WOk ws) {n : Nat} {p : Pl} (hp : (allP ws)[n]? = some p) : byIdS ws (allP ws) p.o.id = pathV ws n := by
  have := byIdS_at hw (lt_total hp) hp
  rwa [List.take_of_length_le (by rw [allP_len]; exact Nat.le_refl _)] at this
def PathPost (d : Int) (M : List Int) (w : World) (e : Ending) (w' : World) : Prop := ∃ u, e = .returned (.tuple #[u, .int .i64 d]) ∧ OwnG encI 1 3 w.heap.size u M w' ∧ Below w.heap.size w w'
set_option maxHeartbeats 8000000 in
set_option maxRecDepth 1000000 in
theorem Path_any (v : Value) (ws : Wk) (id d : Int) (M : List Int) (w : World) (h : RK w.heap.size v ws w) (ht : total ws ≤ 100000) (hc : PathR ws id d M) :
    Calls Try.prog 50 #[.agg #[v], .int .i64 id] w (PathPost d M w) := by
  obtain ⟨A, c, rfl, -⟩ := (show ∃ A c, v = .slice A ws.length c ∧ True by obtain ⟨A, c, e, _⟩ := h; exact ⟨A, c, e, trivial⟩)
  obtain ⟨i, hk, hc⟩ := hc
  have C1 := Lib.hid fun W (S : Wd w (.slice A ws.length c) W) => checkOutlet_any (.slice A ws.length c) ws id i d W (h.up S.siz S.bel) ht hk
  have C2 := Lib.hid fun (hw : WOk ws) W (S : Wd w (.slice A ws.length c) W) => paths_any A c ws W (h.up S.siz S.bel) hw
  have S0 := Lib.hid (Wd.new (w := w) (v := .slice A ws.length c) 24)
  have HK := Lib.hid hk
  have HC := Lib.hid hc
  clear h hk hc
  go_enter Try.func50, Try.ntmps50
  go_wp2_with fail
  refine (C1.out _ S0.out).mono ?_
  rintro e w1 ⟨rfl, b1⟩
  have S := Lib.hid (S0.out.below b1)
  clear b1
  by_cases h0 : d = 0
  rotate_left
  · have hdb : (d != 0) = true := by rw [bne_iff_ne]; exact h0
    have HM : Hid (M = []) := Lib.hid (by rcases HC.out with ⟨_, h⟩ | ⟨h, _⟩; exact h; exact absurd h h0)
    go_wp2_with fail
    refine bodyPost_ret (results_tmp2 rfl _ _ _) rfl ?_
    exact ⟨_, rfl, by rw [HM.out]; exact OwnG.nil _ _ _ _ _, S.out.bel⟩
  subst h0
  obtain ⟨n, p, rfl, hf, hp⟩ := HK.out.at_
  have hw := HK.out.chk.1
  have HW := Lib.hid hw
  obtain rfl := fst_id hf hp
  have HWF := Lib.hid (id_wf hw hp)
  have HM : Hid (M = byIdS ws (allP ws) p.o.id) := Lib.hid (by
    rcases HC.out with ⟨h, _⟩ | ⟨_, k, L, hk, hL, rfl⟩
    · exact absurd rfl h
    · obtain rfl : n = k := by omega
      rw [byId_all hw hp]
      unfold pathV
      rw [pathOf_eq hw hL])
  have x0 := S.out.c
  clear hw hf hp HC
  go_wp2_with fail
  refine (C2.out HW.out _ S.out).mono ?_
  rintro e w2 ⟨rfl, hpm, b2⟩
  have S2 := Lib.hid (S.out.below b2)
  obtain ⟨u, hu, hrun⟩ := hpm.look p.o.id HWF.out
  have HU := Lib.hid hu
  have hrun2 := hrun w2 rfl
  clear b2 x0 hpm hrun hu
  go_wp2_with fail
  refine bodyPost_ret (results_tmp2 rfl _ _ _) rfl ?_
  exact ⟨u, rfl, by rw [HM.out]; exact HU.out.low (by have := S.out.siz; omega), S2.out.bel⟩
end Go.Proofs.Ytmmbmnihhdhbeaa

/- Contract of the specification's signs. -/
namespace Go.Proofs.Ytmmbmnihhdhbeaa
open Go.RowKit

theorem fst_of_head {ws : Wk} {c : Nat} (h : c ∈ headsN ws) : FstIs (fun o : Ou => o.into) (outs ws) (c : Int) (-1) := by
  refine .inr ⟨fun j o ho he => ?_, rfl⟩
  unfold headsN at h
  rw [List.mem_filter] at h
  have h2 := h.2
  unfold fedB at h2
  rw [Bool.not_eq_true', List.any_eq_false] at h2
  obtain ⟨p, hp⟩ := at_total (ws := ws) (n := j) (by have := (List.getElem?_eq_some_iff.1 ho).1; rw [outs_len] at this; exact this)
  have hop : p.o = o := by have := (outs_get hp).1; rw [ho] at this; cases this; rfl
  have := h2 p (List.mem_of_getElem? hp)
  rw [hop] at this
  simp [he] at this
/-- The sign of a head. -/
theorem sgH_at {ws : Wk} (hw : WOk ws) {i k0 : Nat} {p q0 : Pl} {r : List Nat} (hp : (allP ws)[i]? = some p) (hl : pathOf ws i = k0 :: r) (hq : (allP ws)[k0]? = some q0) {c : Nat} (hc : c ∈ headsN ws) : sgH (endE ws p.o.id) c = if (c : Int) = q0.c then 1 else 0 := by
  unfold sgH
  by_cases e : c = q0.c
  · subst e
    rw [endE_at hw hp (by rw [hl]; simp) hq, if_pos rfl]
    omega
  · rw [endE_none hw hp (fun k hk q hqk he => ?_), if_neg (by omega)]
    · rfl
    · have hf := fst_of_head hc
      rw [← he] at hf
      have := (pathOf_is hw (lt_total hp)).fed hw k hk q hqk hf
      rw [hl] at this
      simp at this
      subst this
      rw [hq] at hqk
      cases hqk
      exact e he.symm
/-- Whether an outlet lies ahead of one of some outlets, on the same carrier. -/
def ahB (ws : Wk) (L : List Nat) (q : Pl) : Bool := L.any fun k => match (allP ws)[k]? with
  | some q' => decide (q'.c = q.c) && decide (q.n < q'.n)
  | none => false
theorem ahB_snoc {ws : Wk} {L : List Nat} {j k : Nat} {q q' : Pl} (hj : L[j]? = some k) (hk : (allP ws)[k]? = some q') : ahB ws (L.take (j + 1)) q = (ahB ws (L.take j) q || (decide (q'.c = q.c) && decide (q.n < q'.n))) := by
  unfold ahB
  rw [take_snoc_get hj, List.any_append]
  simp [hk]
/-- The signs of an outlet and of its reach. -/
theorem sg_at {ws : Wk} (hw : WOk ws) {i m : Nat} {p q : Pl} (hp : (allP ws)[i]? = some p) (hq : (allP ws)[m]? = some q) :
    sgO (endE ws p.o.id) q = (if m ∈ pathOf ws i then 1 else if ahB ws (pathOf ws i) q then -1 else 0) ∧ sgR (endE ws p.o.id) q = (if m ∈ pathOf ws i then -1 else if ahB ws (pathOf ws i) q then -1 else 0) := by
  have hP := pathOf_is hw (lt_total hp)
  by_cases hm : m ∈ pathOf ws i
  · have e := endE_at hw hp hm hq
    rw [if_pos hm, if_pos hm]
    unfold sgO sgR
    rw [e, if_pos (by omega), if_pos (by omega)]
    exact ⟨rfl, rfl⟩
  rw [if_neg hm, if_neg hm]
  by_cases hc : ∃ k ∈ pathOf ws i, ∃ q', (allP ws)[k]? = some q' ∧ q'.c = q.c
  · obtain ⟨k, hk, q', hq', hcc⟩ := hc
    have e := endE_at hw hp hk hq'
    rw [hcc] at e
    have hne : q.n ≠ q'.n := fun hn => by
      have : m = k := by
        have h1 := (allP_inv hq).2
        have h2 := (allP_inv hq').2
        obtain ⟨_, _, _, h3⟩ := h1
        obtain ⟨_, _, _, h4⟩ := h2
        rw [hcc, ← hn] at h4
        omega
      exact hm (this ▸ hk)
    have ha : ahB ws (pathOf ws i) q = decide (q.n < q'.n) := by
      unfold ahB
      by_cases hlt : q.n < q'.n
      · rw [decide_eq_true hlt, List.any_eq_true]
        exact ⟨k, hk, by simp [hq', hcc, hlt]⟩
      · rw [decide_eq_false hlt, List.any_eq_false]
        intro k' hk'
        cases hx : (allP ws)[k']? with
        | none => simp
        | some q'' =>
          simp only [Bool.not_eq_true, Bool.and_eq_false_iff, decide_eq_false_iff_not]
          by_cases hc' : q''.c = q.c
          · right
            have := hP.one hw k hk k' hk' q' q'' hq' hx (by omega)
            subst this
            rw [hq'] at hx
            cases hx
            exact hlt
          · left; exact hc'
    rw [ha]
    unfold sgO sgR
    rw [e, if_neg (by omega)]
    by_cases hlt : q.n < q'.n
    · rw [if_pos (by omega), decide_eq_true hlt]; exact ⟨rfl, rfl⟩
    · rw [if_neg (by omega), decide_eq_false hlt]; exact ⟨rfl, rfl⟩
  · have e := endE_none hw hp (c := q.c) (fun k hk q' hq' h => hc ⟨k, hk, q', hq', h⟩)
    have ha : ahB ws (pathOf ws i) q = false := by
      unfold ahB
      rw [List.any_eq_false]
      intro k' hk'
      cases hx : (allP ws)[k']? with
      | none => simp
      | some q'' =>
        have : ¬ q''.c = q.c := fun h => hc ⟨k', hk', q'', hx, h⟩
        simp [this]
    rw [ha]
    unfold sgO sgR
    rw [e, if_neg (by omega), if_neg (by omega)]
    exact ⟨rfl, rfl⟩

/-- What the specification's signs keep besides their lists. -/
structure SgW (w : World) (v : Value) (W : World) : Prop where
  wk : W.cell? ⟨w.heap.size, 0, none⟩ = some v
  r0 : W.cell? ⟨w.heap.size + 1, 0, none⟩ = some (.slice none 0 0)
  r1 : W.cell? ⟨w.heap.size + 1, 1, none⟩ = some (.slice none 0 0)
  r2 : W.cell? ⟨w.heap.size + 1, 2, none⟩ = some (.slice none 0 0)
  r3 : W.cell? ⟨w.heap.size + 1, 3, none⟩ = some (.int .i64 0)
  z : ∀ i, W.frozen? ⟨w.heap.size + 1, i, none⟩ = false
  e3 : W.cell? ⟨w.heap.size + 1 + 1, 3, none⟩ = some (.int .i64 0)
  bel : Below w.heap.size w W
section
variable {w W W' : World} {v : Value}
theorem SgW.siz (h : SgW w v W) : w.heap.size + 3 ≤ W.heap.size := World.block_lt_of_cell? _ _ h.e3
theorem SgW.grown {bs : List Nat} (h : SgW w v W) (hg : GrownL bs W W') (hn : ∀ k ∈ bs, w.heap.size + 3 ≤ k) : SgW w v W' := by
  have n0 : ∀ k, k < w.heap.size + 3 → k ∉ bs := fun k hk hm => by have := hn k hm; omega
  exact ⟨hg.cell h.wk (n0 _ (by show w.heap.size < _; omega)), hg.cell h.r0 (n0 _ (by show w.heap.size + 1 < _; omega)), hg.cell h.r1 (n0 _ (by show w.heap.size + 1 < _; omega)), hg.cell h.r2 (n0 _ (by show w.heap.size + 1 < _; omega)), hg.cell h.r3 (n0 _ (by show w.heap.size + 1 < _; omega)),
    fun i => (World.frozen?_of_block (a := ⟨w.heap.size + 1, i, none⟩) (hg.block (w.heap.size + 1) (World.block_lt_of_cell? _ _ h.r0) (n0 _ (by omega)))).trans (h.z i), hg.cell h.e3 (n0 _ (by show w.heap.size + 1 + 1 < _; omega)), h.bel.trans (hg.below (fun k hk => by have := hn k hk; omega) h.bel.size)⟩
theorem SgW.below (h : SgW w v W) (hb : Below W.heap.size W W') : SgW w v W' := h.grown (GrownL.of_below (bs := []) hb) (by simp)
theorem SgW.set (h : SgW w v W) {j : Nat} (hj : j < 3) (u : Value) : SgW w v (W.setCell ⟨w.heap.size + 1 + 1, j, none⟩ u) := by
  have gs : GrownL [w.heap.size + 2] W (W.setCell ⟨w.heap.size + 1 + 1, j, none⟩ u) := GrownL.set _ _ _ (by simp)
  have n0 : ∀ k, k < w.heap.size + 2 → k ∉ [w.heap.size + 2] := fun k hk hm => by simp at hm; omega
  exact ⟨gs.cell h.wk (n0 _ (by show w.heap.size < _; omega)), gs.cell h.r0 (n0 _ (by show w.heap.size + 1 < _; omega)), gs.cell h.r1 (n0 _ (by show w.heap.size + 1 < _; omega)), gs.cell h.r2 (n0 _ (by show w.heap.size + 1 < _; omega)), gs.cell h.r3 (n0 _ (by show w.heap.size + 1 < _; omega)),
    fun i => (World.frozen?_setCell _ _ _ _).trans (h.z i), (World.cell?_setCell_other _ ⟨w.heap.size + 1 + 1, j, none⟩ ⟨w.heap.size + 1 + 1, 3, none⟩ _ (by simp <;> omega)).trans h.e3, h.bel.trans (gs.below (fun k hk => by simp at hk; omega) h.bel.size)⟩
end

/-- Four cells of a block are written. -/
theorem set4 {W : World} {b : Nat} {a0 a1 a2 a3 : Value} (h0 : W.cell? ⟨b, 0, none⟩ = some a0) (h1 : W.cell? ⟨b, 1, none⟩ = some a1) (h2 : W.cell? ⟨b, 2, none⟩ = some a2) (h3 : W.cell? ⟨b, 3, none⟩ = some a3) (v0 v1 v2 v3 : Value) {X : World} (hX : (((W.setCell ⟨b, 0, none⟩ v0).setCell ⟨b, 1, none⟩ v1).setCell ⟨b, 2, none⟩ v2).setCell ⟨b, 3, none⟩ v3 = X) :
    X.cell? ⟨b, 0, none⟩ = some v0 ∧ X.cell? ⟨b, 1, none⟩ = some v1 ∧ X.cell? ⟨b, 2, none⟩ = some v2 ∧ X.cell? ⟨b, 3, none⟩ = some v3 ∧ GrownL [b] W X := by
  subst hX
  have n : ∀ i j, i ≠ j → ∀ (X : World) (v : Value), (X.setCell ⟨b, i, none⟩ v).cell? ⟨b, j, none⟩ = X.cell? ⟨b, j, none⟩ := fun i j hij X v => World.cell?_setCell_other _ ⟨b, i, none⟩ ⟨b, j, none⟩ _ (by simp <;> omega)
  obtain ⟨p0, p1, p2, g⟩ := set3 h0 h1 h2 v0 v1 v2
  refine ⟨by rw [n 3 0 (by decide), p0], by rw [n 3 1 (by decide), p1], by rw [n 3 2 (by decide), p2], World.cell?_setCell_same' _ _ _ (by rw [n 2 3 (by decide), n 1 3 (by decide), n 0 3 (by decide), h3]; rfl), g.trans (GrownL.set _ _ _ (by simp))⟩

theorem own_snoc {W : World} {base n : Nat} {v : Value} {l : List Int} {y : Int} (h : W.ownsRow base 3 1 v (n + 1) (l.flatMap encI ++ [.int .i64 y])) (hn : l.length = n) : OwnG encI 1 3 base v (l ++ [y]) W := by
  unfold OwnG
  rw [List.flatMap_append, List.length_append, hn]
  exact h
theorem new_set (W : World) (a : Addr) (v x : Value) (t : TypeId) (i : Nat) (u : Value) (hi : [x][i]? = some u) : ((W.setCell a v).alloc (.cells #[x] t)).cell? ((⟨W.heap.size, 0, none⟩ : Addr).add i) = some u := by
  have := one_news (W.setCell a v) x t i u hi
  rwa [show (W.setCell a v).heap.size = W.heap.size by simp] at this

theorem sgw2 {w w3 W w4 : World} {v u1 u2 u3 v4 : Value} {l1 l2 l3 : List Int} {y : Int} (HG : G3 (w.heap.size + 1 + 1) w3.heap.size u1 u2 u3 l1 l2 l3 W) (SS : SgW w v W) (HGR : GrownL [w.heap.size + 1 + 1] w3 W) (ho : OwnG encI 1 3 w3.heap.size v4 (l2 ++ [y]) w4) (hg : GrownL u2.ownBlock.toList W w4) (ha : v4.ownBlock = u2.ownBlock ∨ ∃ n, v4.ownBlock = some n ∧ W.heap.size ≤ n) :
    G3 (w.heap.size + 1 + 1) w3.heap.size u1 v4 u3 l1 (l2 ++ [y]) l3 (w4.setCell ⟨w.heap.size + 1 + 1, 1, none⟩ v4) ∧ SgW w v (w4.setCell ⟨w.heap.size + 1 + 1, 1, none⟩ v4) ∧ GrownL [w.heap.size + 1 + 1] w3 (w4.setCell ⟨w.heap.size + 1 + 1, 1, none⟩ v4) ∧ w4.cell? ⟨w.heap.size + 1 + 1, 1, none⟩ = some u2 ∧ w4.frozen? ⟨w.heap.size + 1 + 1, 1, none⟩ = false := by
  have hlt := fun b (hb : b ∈ u2.ownBlock.toList) => (HG.o2.lt b (by simpa using hb))
  have hgb := HG.gb
  have hn4 : w.heap.size + 1 + 1 ∉ u2.ownBlock.toList := fun hm => by have := (hlt _ hm).1; omega
  refine ⟨HG.app2 hg ho ha, (SS.grown hg (fun b hb => by have := (hlt b hb).1; omega)).set (by decide) _, ?_, hg.cell HG.c2 hn4, (World.frozen?_of_block (a := ⟨w.heap.size + 1 + 1, 1, none⟩) (hg.block _ HG.lt hn4)).trans HG.f2⟩
  exact HGR.newer ((hg.mono (bs' := (w.heap.size + 1 + 1) :: u2.ownBlock.toList) (by simp +contextual)).trans (GrownL.set _ _ _ (by simp))) (fun b hb => (hlt b hb).1)

theorem sgw3 {w w3 W w4 : World} {v u1 u2 u3 v4 : Value} {l1 l2 l3 : List Int} {y : Int} (HG : G3 (w.heap.size + 1 + 1) w3.heap.size u1 u2 u3 l1 l2 l3 W) (SS : SgW w v W) (HGR : GrownL [w.heap.size + 1 + 1] w3 W) (ho : OwnG encI 1 3 w3.heap.size v4 (l3 ++ [y]) w4) (hg : GrownL u3.ownBlock.toList W w4) (ha : v4.ownBlock = u3.ownBlock ∨ ∃ n, v4.ownBlock = some n ∧ W.heap.size ≤ n) :
    G3 (w.heap.size + 1 + 1) w3.heap.size u1 u2 v4 l1 l2 (l3 ++ [y]) (w4.setCell ⟨w.heap.size + 1 + 1, 2, none⟩ v4) ∧ SgW w v (w4.setCell ⟨w.heap.size + 1 + 1, 2, none⟩ v4) ∧ GrownL [w.heap.size + 1 + 1] w3 (w4.setCell ⟨w.heap.size + 1 + 1, 2, none⟩ v4) ∧ w4.cell? ⟨w.heap.size + 1 + 1, 2, none⟩ = some u3 ∧ w4.frozen? ⟨w.heap.size + 1 + 1, 2, none⟩ = false := by
  have hlt := fun b (hb : b ∈ u3.ownBlock.toList) => (HG.o3.lt b (by simpa using hb))
  have hgb := HG.gb
  have hn4 : w.heap.size + 1 + 1 ∉ u3.ownBlock.toList := fun hm => by have := (hlt _ hm).1; omega
  refine ⟨HG.app3 hg ho ha, (SS.grown hg (fun b hb => by have := (hlt b hb).1; omega)).set (by decide) _, ?_, hg.cell HG.c3 hn4, (World.frozen?_of_block (a := ⟨w.heap.size + 1 + 1, 2, none⟩) (hg.block _ HG.lt hn4)).trans HG.f3⟩
  exact HGR.newer ((hg.mono (bs' := (w.heap.size + 1 + 1) :: u3.ownBlock.toList) (by simp +contextual)).trans (GrownL.set _ _ _ (by simp))) (fun b hb => (hlt b hb).1)

set_option maxHeartbeats 16000000 in
set_option maxRecDepth 1000000 in
theorem rsigns_any (A : Option Addr) (c : Nat) (ws : Wk) (i : Nat) (p : Pl) (w : World) (h : RK w.heap.size (.slice A ws.length c) ws w) (hw : WOk ws) (hp : (allP ws)[i]? = some p) :
    Calls Try.prog 120 #[.agg #[.slice A ws.length c], .int .i64 i] w fun e w' => ∃ v1 v2 v3, e = .returned (.agg #[v1, v2, v3, .int .i64 0]) ∧ OwnG encI 1 3 w.heap.size v1 (sigH ws p.o.id) w' ∧ OwnG encI 1 3 w.heap.size v2 (sigO ws p.o.id) w' ∧ OwnG encI 1 3 w.heap.size v3 (sigR ws p.o.id) w' ∧ Below w.heap.size w w' := by
  obtain ⟨i0, hz0, hj0, hj1, hj2⟩ := info_parts infoInt
  have ht : total ws ≤ 100000 := by have := hw.tot; omega
  have hln : ws.length ≤ 100000 := by have := hw.len; omega
  have C1 := Lib.hid fun W (hb : Below w.heap.size w W) => rplaces_any A ws.length c ws W (h.up hb.size hb) ht
  have C2 := Lib.hid fun (L : List Nat) (hL : PathIs ws i L) W (hb : Below w.heap.size w W) => rpath_any (.slice A ws.length c) ws i L W (h.up hb.size hb) hw hL
  have C3 := Lib.hid fun W (hb : Below w.heap.size w W) => rheads_any A ws.length c ws W (h.up hb.size hb) ht hln
  have HW := Lib.hid hw
  have HP := Lib.hid hp
  obtain ⟨W0, hW0⟩ : ∃ W0, (((w.alloc (.cells #[.slice A ws.length c] 24)).alloc (.cells #[.slice none 0 0, .slice none 0 0, .slice none 0 0, .int .i64 0] 94)).alloc (.cells #[.slice none 0 0, .slice none 0 0, .slice none 0 0, .int .i64 0] 94)) = W0 := ⟨_, rfl⟩
  have S0 : Hid (SgW w (.slice A ws.length c) W0) := Lib.hid (by rw [← hW0]; exact ⟨by simp [go_sem], by simp [go_sem], by simp [go_sem], by simp [go_sem], by simp [go_sem], fun i => by simp [go_sem], by simp [go_sem], (((Below.refl _ _).alloc (Nat.le_refl _) _).alloc (by simp) _).alloc (by simp; omega) _⟩)
  have B0 : Hid ((∀ j, j < 3 → W0.cell? ⟨w.heap.size + 1 + 1, j, none⟩ = some (.slice none 0 0)) ∧ ∀ j, W0.frozen? ⟨w.heap.size + 1 + 1, j, none⟩ = false) := Lib.hid (by
    rw [← hW0]
    refine ⟨fun j hj => ?_, fun j => by simp [go_sem]⟩
    match j, hj with
    | 0, _ => simp [go_sem]
    | 1, _ => simp [go_sem]
    | 2, _ => simp [go_sem]
    | j + 3, hj => omega)
  have HW0 := Lib.hid hW0
  clear h hw hp ht hln hW0
  obtain ⟨L, hL⟩ : ∃ L, pathOf ws i = L := ⟨_, rfl⟩
  have HPI : Hid (PathIs ws i L) := Lib.hid (by rw [← hL]; exact pathOf_is HW.out (lt_total HP.out))
  have HLL := Lib.hid hL
  clear hL
  obtain ⟨k0, r, q0, hl0, hq0, -⟩ := HPI.out.top
  have HK0 := Lib.hid (And.intro hl0 hq0)
  clear hl0 hq0
  go_enter Try.func120, Try.ntmps120
  go_upto_region 2 with fail
  rw [HW0.out]
  have x0 := S0.out.wk
  go_wp2_with fail
  refine (C1.out _ S0.out.bel).mono ?_
  rintro e w1 ⟨pv, rfl, hpv, b1⟩
  have S1 := Lib.hid (S0.out.below b1)
  have P1 := Lib.hid hpv
  have D1 := Lib.hid b1
  obtain ⟨Ap, cp, rfl, -⟩ := hpv.form
  rw [plL_len] at P1 ⊢
  have x0 := S1.out.wk
  clear hpv b1
  go_wp2_with fail
  refine (C2.out L HPI.out _ S1.out.bel).mono ?_
  rintro e w2 ⟨ov, rfl, hov, b2⟩
  have S2 := Lib.hid (S1.out.below b2)
  have P2 := Lib.hid (P1.out.below b2)
  have O2 := Lib.hid hov
  have D2 := Lib.hid (D1.out.trans (b2.mono D1.out.size))
  obtain ⟨Ao, co, rfl, -⟩ := hov.form
  rw [List.length_map] at O2 ⊢
  have x0 := S2.out.wk
  clear hov b2
  go_wp2_with fail
  refine (C3.out _ S2.out.bel).mono ?_
  rintro e w3 ⟨hv, rfl, hhv, b3⟩
  have S3 := Lib.hid (S2.out.below b3)
  have P3 := Lib.hid ((P2.out.below b3).rr E2 (by rw [plL_len]; have := HW.out.tot; show total ws ≤ 1000000000000000; omega))
  have hll : L.length ≤ total ws := by have h1 := HPI.out.len HW.out; have h2 := HPI.out.lt; omega
  have HLN : Hid (L.length ≤ 60) := Lib.hid (by have := HW.out.tot; omega)
  have O3 := Lib.hid ((O2.out.below b3).rr EI (by rw [List.length_map]; have := HLN.out; show L.length ≤ 1000000000000000; omega))
  have hhl := headsL_len HW.out
  have H3 := Lib.hid (hhv.rr EI (by show (headsL ws).length ≤ 1000000000000000; omega))
  have D3 := Lib.hid (D2.out.trans (b3.mono D2.out.size))
  obtain ⟨Ah, ch, rfl, -⟩ := hhv.form
  have HRB : Hid ((∀ b, (Value.slice Ap (total ws) cp).ownBlock = some b → w.heap.size + 3 ≤ b) ∧ (∀ b, (Value.slice Ao L.length co).ownBlock = some b → w.heap.size + 3 ≤ b) ∧ (∀ b, (Value.slice Ah (headsL ws).length ch).ownBlock = some b → w.heap.size + 3 ≤ b)) := Lib.hid ⟨fun b hb => by have := (P1.out.lt b hb).1; have := S0.out.siz; omega, fun b hb => by have := (O2.out.lt b hb).1; have := S1.out.siz; omega, fun b hb => by have := (hhv.lt b hb).1; have := S2.out.siz; omega⟩
  obtain ⟨nh, hnh⟩ : ∃ nh, (headsL ws).length = nh := ⟨_, rfl⟩
  have HNH := Lib.hid hnh
  rw [hnh] at H3 HRB hhl ⊢
  have hh0 : (nh : Int) ≤ 16 := by omega
  have hsz := S3.out.siz
  have G0 : Hid (G3 (w.heap.size + 1 + 1) w3.heap.size (.slice none 0 0) (.slice none 0 0) (.slice none 0 0) [] [] [] w3) := Lib.hid (by
    have cl : ∀ j, j < 3 → w3.cell? ⟨w.heap.size + 1 + 1, j, none⟩ = some (.slice none 0 0) := fun j hj => (D3.out.cell (p := ⟨w.heap.size + 1 + 1, j, none⟩) (by have := S0.out.siz; show w.heap.size + 1 + 1 < _; omega)).trans (B0.out.1 j hj)
    have fl : ∀ j, w3.frozen? ⟨w.heap.size + 1 + 1, j, none⟩ = false := fun j => (D3.out.frozen (p := ⟨w.heap.size + 1 + 1, j, none⟩) (by have := S0.out.siz; show w.heap.size + 1 + 1 < _; omega)).trans (B0.out.2 j)
    exact ⟨cl 0 (by decide), cl 1 (by decide), cl 2 (by decide), fl 0, fl 1, fl 2, OwnG.nil _ _ _ _ _, OwnG.nil _ _ _ _ _, OwnG.nil _ _ _ _ _, (fun b e => by cases e), (fun b e => by cases e), (fun b e => by cases e), by omega⟩)
  clear hhv b3 hnh x0 P1 P2 O2 D1 D2 S1 S2 hll hsz
  go_wp2_with fail
  go_loopw [9] (fun u wr => ∃ k : Nat, u = .int .i64 k ∧ k ≤ nh ∧ (∃ u1, G3 (w.heap.size + 1 + 1) w3.heap.size u1 (.slice none 0 0) (.slice none 0 0) (((headsN ws).take k).map (sgH (endE ws p.o.id))) [] [] wr) ∧ SgW w (.slice A ws.length c) wr ∧ GrownL [w.heap.size + 1 + 1] w3 wr) (fun u _ => nh - (intOf u).toNat)
  case atStart => exact ⟨0, rfl, by omega, ⟨_, G0.out⟩, S3.out, GrownL.refl _ _⟩
  case round =>
    obtain ⟨k, rfl, hk, ⟨u1, hG⟩, hS, hgr⟩ := hrel
    have HG := Lib.hid hG
    have SS := Lib.hid hS
    have HGR := Lib.hid hgr
    obtain ⟨A1, c1, rfl, -⟩ := hG.o1.form
    clear hG hS hgr G0
    by_cases hkl : k < nh
    · have hk0 : (k : Int) < (nh : Int) := by omega
      obtain ⟨x, hx⟩ : ∃ x, (headsN ws)[k]? = some x := ⟨_, List.getElem?_eq_getElem (by have := HNH.out; simp [headsL] at this; omega)⟩
      have hxl : (headsL ws)[k]? = some (x : Int) := by unfold headsL; rw [List.getElem?_map, hx]; rfl
      obtain ⟨y, hy⟩ : ∃ y, sgH (endE ws p.o.id) x = y := ⟨_, rfl⟩
      have HY := Lib.hid hy
      have HV : Hid (y = if (x : Int) = q0.c then 1 else 0) := Lib.hid (by rw [← hy]; exact sgH_at HW.out HP.out (HLL.out.trans HK0.out.1) HK0.out.2 (List.mem_of_getElem? hx))
      have HT : Hid (((headsN ws).take (k + 1)).map (sgH (endE ws p.o.id)) = ((headsN ws).take k).map (sgH (endE ws p.o.id)) ++ [y]) := Lib.hid (by rw [take_snoc_get hx, List.map_append, ← hy]; rfl)
      clear hy
      have hb2 : ∀ b, w.heap.size + 3 ≤ b → b ∉ [w.heap.size + 1 + 1] := fun b hb hm => by simp at hm; omega
      obtain ⟨bh, oh, rfl, hbh, q1⟩ := H3.out.int hxl
      have y1 : wr.cell? ⟨bh, oh + k, none⟩ = some (.int .i64 x) := HGR.out.cell q1 (hb2 _ (HRB.out.2.2 bh rfl))
      obtain ⟨bo, oo, rfl, hbo, q2⟩ := O3.out.int (k := 0) (x := (k0 : Int)) (by rw [HK0.out.1]; rfl)
      have y2 : wr.cell? ⟨bo, oo + 0, none⟩ = some (.int .i64 k0) := HGR.out.cell q2 (hb2 _ (HRB.out.2.1 bo rfl))
      obtain ⟨bp, op, rfl, hbp, q3, -⟩ := P3.out.span (outs_get HK0.out.2).2
      have y3 : wr.cell? ⟨bp, op + k0 * 2, none⟩ = some (.int .i64 q0.c) := HGR.out.cell q3 (hb2 _ (HRB.out.1 bp rfl))
      have hL0 : (0 : Int) < (L.length : Int) := by rw [HK0.out.1]; simp
      have hk1 : (k0 : Int) < (total ws : Int) := by have := lt_total HK0.out.2; omega
      obtain ⟨l1, hl1⟩ : ∃ l1, ((headsN ws).take k).map (sgH (endE ws p.o.id)) = l1 := ⟨_, rfl⟩
      have hl1b : l1.length ≤ 16 := by rw [← hl1, List.length_map, List.length_take]; omega
      rw [hl1] at HG HT
      obtain ⟨n1, hn1⟩ : ∃ n1, l1.length = n1 := ⟨_, rfl⟩
      have HN1 := Lib.hid hn1
      rw [Nat.add_zero] at y2
      have y4 := HG.out.c1
      have z4 := HG.out.f1
      have R1 : Hid (wr.ownsRow w3.heap.size 3 1 (.slice A1 l1.length c1) l1.length (l1.flatMap encI)) := Lib.hid (HG.out.o1)
      have hbs : w3.heap.size ≤ wr.heap.size := HGR.out.size
      rw [hn1] at R1 HG hl1b y4
      clear hx hxl q1 q2 q3 hb2 hl1 hn1
      have FIN : Hid (∀ (v4 : Value) (w4 : World), OwnG encI 1 3 w3.heap.size v4 (l1 ++ [y]) w4 → GrownL (Value.slice A1 n1 c1).ownBlock.toList wr w4 → (v4.ownBlock = (Value.slice A1 n1 c1).ownBlock ∨ ∃ n, v4.ownBlock = some n ∧ wr.heap.size ≤ n) →
          (∃ u1, G3 (w.heap.size + 1 + 1) w3.heap.size u1 (.slice none 0 0) (.slice none 0 0) (((headsN ws).take (k + 1)).map (sgH (endE ws p.o.id))) [] [] (w4.setCell ⟨w.heap.size + 1 + 1, 0, none⟩ v4)) ∧ SgW w (.slice A ws.length c) (w4.setCell ⟨w.heap.size + 1 + 1, 0, none⟩ v4) ∧ GrownL [w.heap.size + 1 + 1] w3 (w4.setCell ⟨w.heap.size + 1 + 1, 0, none⟩ v4) ∧ w4.cell? ⟨w.heap.size + 1 + 1, 0, none⟩ = some (.slice A1 n1 c1) ∧ w4.frozen? ⟨w.heap.size + 1 + 1, 0, none⟩ = false) := Lib.hid (fun v4 w4 ho hg ha => by
        have hlt := fun b (hb : b ∈ (Value.slice A1 n1 c1).ownBlock.toList) => (HG.out.o1.lt b (by simpa using hb))
        have hgb := HG.out.gb
        have hn4 : w.heap.size + 1 + 1 ∉ (Value.slice A1 n1 c1).ownBlock.toList := fun hm => by have := (hlt _ hm).1; omega
        refine ⟨⟨v4, by rw [HT.out]; exact HG.out.app1 hg ho ha⟩, (SS.out.grown hg (fun b hb => by have := (hlt b hb).1; omega)).set (by decide) _, ?_, hg.cell HG.out.c1 hn4, (World.frozen?_of_block (a := ⟨w.heap.size + 1 + 1, 0, none⟩) (hg.block _ HG.out.lt hn4)).trans HG.out.f1⟩
        exact HGR.out.newer ((hg.mono (bs' := (w.heap.size + 1 + 1) :: (Value.slice A1 n1 c1).ownBlock.toList) (by simp +contextual)).trans (GrownL.set _ _ _ (by simp))) (fun b hb => (hlt b hb).1))
      by_cases hxq : (x : Int) = q0.c
      · have HY1 : Hid (y = 1) := Lib.hid (by rw [HV.out, if_pos hxq])
        have hbq : ((x : Int) == (q0.c : Int)) = true := by rw [beq_iff_eq]; exact hxq
        go_wp2_with fail
        go_quiet (fail)
        go_wp2_with (at_builtin; refine wpList_append_own_at _ rfl _ _ 25 rfl w3.heap.size 3 i0 (.int .i64 0) 1 8 Try.underlying25 hz0 hj0 hj1 hj2 rfl (by decide) _ n1 _ rfl (R1.out.alloc _) ⟨wr.heap.size, 0, none⟩ 1 1 [.int .i64 1] rfl rfl (fun i u hi => one_news wr (.int .i64 1) 3 i u hi) (fun u hu => one_one 1 u hu) ?c3 ?c4 ?c5 ?_)
        case c3 => unfold maxLen; omega
        case c4 => omega
        case c5 => first | (simp <;> omega) | omega
        intro v4 w4 hown4 hgrow4 _ hat4
        have O4 : Hid (OwnG encI 1 3 w3.heap.size v4 (l1 ++ [y]) w4) := Lib.hid (by unfold OwnG; rw [List.flatMap_append, List.length_append, HN1.out, HY1.out]; exact hown4)
        obtain ⟨A4, c4, rfl, -⟩ := O4.out.form
        obtain ⟨n4, hn4⟩ : ∃ n, (l1 ++ [y]).length = n := ⟨_, rfl⟩
        rw [hn4] at O4 hat4 ⊢
        obtain ⟨f1, f2, f3, f4, f5⟩ := FIN.out _ w4 O4.out ((GrownL.of_below ((below_drewN (Below.refl wr.heap.size wr) _).alloc (Nat.le_refl _) (.cells #[.int .i64 _] 3))).trans (GrownL.of_row hgrow4)) (hat4.imp (fun h => h) (fun h => ⟨_, h, by simp⟩))
        clear hn4
        have F := Lib.hid (And.intro f1 (And.intro f2 f3))
        clear f1 f2 f3 hown4 hgrow4 hat4
        go_wp2_with fail
        go_roundw
        case rel => exact ⟨k + 1, by go_num, by omega, F.out⟩
        case measure => show nh - ((k : Int) + 1).toNat < nh - (k : Int).toNat; omega
      · have HY1 : Hid (y = 0) := Lib.hid (by rw [HV.out, if_neg hxq])
        have hbq : ((x : Int) == (q0.c : Int)) = false := by rw [beq_eq_false_iff_ne]; exact hxq
        go_wp2_with fail
        go_quiet (fail)
        go_wp2_with (at_builtin; refine wpList_append_own_at _ rfl _ _ 25 rfl w3.heap.size 3 i0 (.int .i64 0) 1 8 Try.underlying25 hz0 hj0 hj1 hj2 rfl (by decide) _ n1 _ rfl (R1.out.alloc _) ⟨wr.heap.size, 0, none⟩ 1 1 [.int .i64 0] rfl rfl (fun i u hi => one_news wr (.int .i64 0) 3 i u hi) (fun u hu => one_one 0 u hu) ?c3 ?c4 ?c5 ?_)
        case c3 => unfold maxLen; omega
        case c4 => omega
        case c5 => first | (simp <;> omega) | omega
        intro v4 w4 hown4 hgrow4 _ hat4
        have O4 : Hid (OwnG encI 1 3 w3.heap.size v4 (l1 ++ [y]) w4) := Lib.hid (by unfold OwnG; rw [List.flatMap_append, List.length_append, HN1.out, HY1.out]; exact hown4)
        obtain ⟨A4, c4, rfl, -⟩ := O4.out.form
        obtain ⟨n4, hn4⟩ : ∃ n, (l1 ++ [y]).length = n := ⟨_, rfl⟩
        rw [hn4] at O4 hat4 ⊢
        obtain ⟨f1, f2, f3, f4, f5⟩ := FIN.out _ w4 O4.out ((GrownL.of_below ((below_drewN (Below.refl wr.heap.size wr) _).alloc (Nat.le_refl _) (.cells #[.int .i64 _] 3))).trans (GrownL.of_row hgrow4)) (hat4.imp (fun h => h) (fun h => ⟨_, h, by simp⟩))
        clear hn4
        have F := Lib.hid (And.intro f1 (And.intro f2 f3))
        clear f1 f2 f3 hown4 hgrow4 hat4
        go_wp2_with fail
        go_roundw
        case rel => exact ⟨k + 1, by go_num, by omega, F.out⟩
        case measure => show nh - ((k : Int) + 1).toNat < nh - (k : Int).toNat; omega
    · have hk0 : (nh : Int) ≤ (k : Int) := by omega
      obtain rfl : k = nh := by omega
      have HE : Hid (((headsN ws).take k).map (sgH (endE ws p.o.id)) = sigH ws p.o.id) := Lib.hid (by rw [List.take_of_length_le (by have := HNH.out; simp [headsL] at this; omega)]; rfl)
      rw [HE.out] at HG
      obtain ⟨m1, hm1⟩ : ∃ m, (sigH ws p.o.id).length = m := ⟨_, rfl⟩
      rw [hm1] at HG
      obtain ⟨U1, hU1⟩ : ∃ U, Value.slice A1 m1 c1 = U := ⟨_, rfl⟩
      have HU1 := Lib.hid hU1
      rw [hU1] at HG
      clear hm1 hU1 hk hk0 hkl HE
      go_wp2_with fail
      go_loopw [11] (fun u wq => ∃ (n : Nat) (u2 u3 : Value), u = .int .i64 n ∧ n ≤ total ws ∧ G3 (w.heap.size + 1 + 1) w3.heap.size U1 u2 u3 (sigH ws p.o.id) (((allP ws).take n).map (sgO (endE ws p.o.id))) (((allP ws).take n).map (sgR (endE ws p.o.id))) wq ∧ SgW w (.slice A ws.length c) wq ∧ GrownL [w.heap.size + 1 + 1] w3 wq) (fun u _ => total ws - (intOf u).toNat)
      case atStart => exact ⟨0, _, _, rfl, by omega, HG.out, SS.out, HGR.out⟩
      case round =>
        obtain ⟨n, u2, u3, rfl, hn, hG, hS, hgr⟩ := hrel
        obtain ⟨wo, rfl⟩ : ∃ wo, wo = wr := ⟨_, rfl⟩
        have HG := Lib.hid hG
        have SS := Lib.hid hS
        have HGR := Lib.hid hgr
        have ht60 := HW.out.tot
        clear hG hS hgr
        by_cases hnl : n < total ws
        · have hn0 : (n : Int) < (total ws : Int) := by omega
          obtain ⟨q, hq⟩ := at_total hnl
          have HQ := Lib.hid hq
          clear hq
          go_wp2_with fail
          go_loopw [12, 13] (fun a u wi => ∃ j : Nat, u = .int .i64 j ∧ j ≤ L.length ∧ a = .bool (ahB ws (L.take j) q) ∧ Below wo.heap.size wo wi) (fun _ u _ => L.length - (intOf u).toNat)
          case atStart => exact ⟨0, rfl, by omega, rfl, Below.refl _ _⟩
          case round =>
            obtain ⟨j, rfl, hj, rfl, hb⟩ := hrel
            have HB := Lib.hid hb
            clear hb
            have hL60 := HLN.out
            by_cases hjl : j < L.length
            · have hj0 : (j : Int) < (L.length : Int) := by omega
              obtain ⟨m, hm⟩ : ∃ m, L[j]? = some m := ⟨_, List.getElem?_eq_getElem hjl⟩
              have hmt : m < total ws := HPI.out.mem m (List.mem_of_getElem? hm)
              obtain ⟨qm, hqm⟩ := at_total hmt
              have HAS := Lib.hid (ahB_snoc (q := q) hm hqm)
              have hb2 : ∀ b, w.heap.size + 3 ≤ b → b ∉ [w.heap.size + 1 + 1] := fun b hb hm => by simp at hm; omega
              obtain ⟨bo, oo, rfl, hbo, q2⟩ := O3.out.int (k := j) (x := (m : Int)) (by rw [List.getElem?_map, hm]; rfl)
              have y2 : wr.cell? ⟨bo, oo + j, none⟩ = some (.int .i64 m) := BelS.c HB.out (HGR.out.cell q2 (hb2 _ (HRB.out.2.1 bo rfl)))
              obtain ⟨bp, op, e1, hbp, q3, q4⟩ := P3.out.span (outs_get hqm).2
              subst e1
              have y3 : wr.cell? ⟨bp, op + m * 2, none⟩ = some (.int .i64 qm.c) := BelS.c HB.out (HGR.out.cell q3 (hb2 _ (HRB.out.1 bp rfl)))
              have y4 : wr.cell? ⟨bp, op + m * 2 + 1, none⟩ = some (.int .i64 qm.n) := BelS.c HB.out (HGR.out.cell q4 (hb2 _ (HRB.out.1 bp rfl)))
              obtain ⟨bp', op', e1, -, q5, q6⟩ := P3.out.span (outs_get HQ.out).2
              obtain ⟨rfl, rfl⟩ : bp = bp' ∧ op = op' := by simpa using e1
              have y5 : wr.cell? ⟨bp, op + n * 2, none⟩ = some (.int .i64 q.c) := BelS.c HB.out (HGR.out.cell q5 (hb2 _ (HRB.out.1 bp rfl)))
              have y6 : wr.cell? ⟨bp, op + n * 2 + 1, none⟩ = some (.int .i64 q.n) := BelS.c HB.out (HGR.out.cell q6 (hb2 _ (HRB.out.1 bp rfl)))
              have hm1 : (m : Int) < (total ws : Int) := by omega
              obtain ⟨b, hb⟩ : ∃ b, ahB ws (L.take j) q = b := ⟨_, rfl⟩
              rw [hb] at HAS ⊢
              clear hm hmt hqm hb2 q2 q3 q4 q5 q6 e1 hb
              cases b
              · by_cases hc : (qm.c : Int) = q.c
                · have hcb : ((qm.c : Int) == (q.c : Int)) = true := by rw [beq_iff_eq]; exact hc
                  by_cases hlt : (q.n : Int) < qm.n
                  · have HV : Hid (ahB ws (L.take (j + 1)) q = true) := Lib.hid (by rw [HAS.out, decide_eq_true (by omega), decide_eq_true (by omega)]; rfl)
                    go_wp2_with fail
                    go_quiet (fail)
                    go_wp2_with fail
                    go_roundw
                    case rel => exact ⟨j + 1, by go_num, by omega, by rw [HV.out]; try (congr 1; exact decide_eq_false (by omega)), HB.out.trans ((below_drewN (Below.refl _ _) _).mono HB.out.size)⟩
                    case measure => show L.length - ((j : Int) + 1).toNat < L.length - (j : Int).toNat; omega
                  · have HV : Hid (ahB ws (L.take (j + 1)) q = false) := Lib.hid (by rw [HAS.out, decide_eq_false (p := q.n < qm.n) (by omega)]; simp)
                    have hlb : decide ((q.n : Int) < (qm.n : Int)) = false := decide_eq_false hlt
                    go_wp2_with fail
                    go_quiet (fail)
                    go_wp2_with fail
                    go_roundw
                    case rel => exact ⟨j + 1, by go_num, by omega, by rw [HV.out]; try (congr 1; exact decide_eq_false (by omega)), HB.out.trans ((below_drewN (Below.refl _ _) _).mono HB.out.size)⟩
                    case measure => show L.length - ((j : Int) + 1).toNat < L.length - (j : Int).toNat; omega
                · have hcb : ((qm.c : Int) == (q.c : Int)) = false := by rw [beq_eq_false_iff_ne]; exact hc
                  have HV : Hid (ahB ws (L.take (j + 1)) q = false) := Lib.hid (by rw [HAS.out, decide_eq_false (p := qm.c = q.c) (by omega)]; simp)
                  go_wp2_with fail
                  go_quiet (fail)
                  go_wp2_with fail
                  go_roundw
                  case rel => exact ⟨j + 1, by go_num, by omega, by rw [HV.out]; try (congr 1; exact decide_eq_false (by omega)), HB.out.trans ((below_drewN (Below.refl _ _) _).mono HB.out.size)⟩
                  case measure => show L.length - ((j : Int) + 1).toNat < L.length - (j : Int).toNat; omega
              · have HV : Hid (ahB ws (L.take (j + 1)) q = true) := Lib.hid (by rw [HAS.out]; rfl)
                go_wp2_with fail
                go_quiet (fail)
                go_wp2_with fail
                go_roundw
                case rel => exact ⟨j + 1, by go_num, by omega, by rw [HV.out]; try (congr 1; exact decide_eq_false (by omega)), HB.out.trans ((below_drewN (Below.refl _ _) _).mono HB.out.size)⟩
                case measure => show L.length - ((j : Int) + 1).toNat < L.length - (j : Int).toNat; omega
            · have hj0 : (L.length : Int) ≤ (j : Int) := by omega
              obtain rfl : j = L.length := by omega
              rw [List.take_of_length_le (Nat.le_refl _)]
              have hsg := sg_at HW.out HP.out HQ.out
              rw [HLL.out] at hsg
              obtain ⟨yo, hyo⟩ : ∃ y, sgO (endE ws p.o.id) q = y := ⟨_, rfl⟩
              obtain ⟨yr, hyr⟩ : ∃ y, sgR (endE ws p.o.id) q = y := ⟨_, rfl⟩
              have HTO : Hid (((allP ws).take (n + 1)).map (sgO (endE ws p.o.id)) = ((allP ws).take n).map (sgO (endE ws p.o.id)) ++ [yo]) := Lib.hid (by rw [take_snoc_get HQ.out, List.map_append, ← hyo]; rfl)
              have HTR : Hid (((allP ws).take (n + 1)).map (sgR (endE ws p.o.id)) = ((allP ws).take n).map (sgR (endE ws p.o.id)) ++ [yr]) := Lib.hid (by rw [take_snoc_get HQ.out, List.map_append, ← hyr]; rfl)
              rw [hyo, hyr] at hsg
              have HSG := Lib.hid hsg
              clear hsg hyo hyr
              have OW := Lib.hid ((O3.out.grown HGR.out (fun g hg hm => by have := HRB.out.2.1 g hg; simp at hm; omega)).up HB.out.size HB.out)
              have G1 := Lib.hid (HG.out.grown (bs := []) (GrownL.of_below HB.out) (by simp) (by simp))
              have S1 := Lib.hid (SS.out.below HB.out)
              have R1 := Lib.hid (HGR.out.trans (GrownL.of_below (bs := [w.heap.size + 1 + 1]) HB.out))
              obtain ⟨ah, hah⟩ : ∃ b, ahB ws L q = b := ⟨_, rfl⟩
              rw [hah] at HSG ⊢
              clear hah hj hj0 hjl
              go_wp2_with fail
              refine (rin_any _ _ (n : Int) _ OW.out (by rw [List.length_map]; omega)).mono ?_
              rintro e w5 ⟨rfl, b5⟩
              have G2 := Lib.hid (G1.out.grown (bs := []) (GrownL.of_below b5) (by simp) (by simp))
              have S2 := Lib.hid (S1.out.below b5)
              have R2 := Lib.hid (R1.out.trans (GrownL.of_below (bs := [w.heap.size + 1 + 1]) b5))
              have hmem : decide ((n : Int) ∈ L.map Int.ofNat) = decide (n ∈ L) := by
                refine decide_eq_decide.2 ⟨fun h => ?_, fun h => List.mem_map.2 ⟨n, h, rfl⟩⟩
                obtain ⟨k, hk, he⟩ := List.mem_map.1 h
                have : k = n := by have : (k : Int) = n := he; omega
                exact this ▸ hk
              rw [hmem]
              obtain ⟨it, hit⟩ : ∃ b, decide (n ∈ L) = b := ⟨_, rfl⟩
              have HIT := Lib.hid hit
              rw [hit]
              clear hmem hit b5 OW G1 S1 R1
              obtain ⟨A2, c2, rfl, -⟩ := G2.out.o2.form
              obtain ⟨A3, c3, rfl, -⟩ := G2.out.o3.form
              obtain ⟨l2, hl2⟩ : ∃ l, ((allP ws).take n).map (sgO (endE ws p.o.id)) = l := ⟨_, rfl⟩
              obtain ⟨l3, hl3⟩ : ∃ l, ((allP ws).take n).map (sgR (endE ws p.o.id)) = l := ⟨_, rfl⟩
              have hb2 : l2.length ≤ 60 := by rw [← hl2, List.length_map, List.length_take]; omega
              have hb3 : l3.length ≤ 60 := by rw [← hl3, List.length_map, List.length_take]; omega
              rw [hl2, hl3] at G2
              rw [hl2] at HTO
              rw [hl3] at HTR
              obtain ⟨n2, hn2⟩ : ∃ n, l2.length = n := ⟨_, rfl⟩
              obtain ⟨n3, hn3⟩ : ∃ n, l3.length = n := ⟨_, rfl⟩
              have HN2 := Lib.hid hn2
              have HN3 := Lib.hid hn3
              have RA : Hid (w5.ownsRow w3.heap.size 3 1 (.slice A2 l2.length c2) l2.length (l2.flatMap encI)) := Lib.hid G2.out.o2
              have hbs : w3.heap.size ≤ w5.heap.size := R2.out.size
              have x2 := G2.out.c2
              have z2 := G2.out.f2
              rw [hn2, hn3] at G2
              rw [hn2] at RA hb2 x2
              rw [hn3] at hb3
              clear hl2 hl3 hn2 hn3
              cases ah <;> cases it
              all_goals
                have e := HSG.out
                have hi := HIT.out
                simp at hi
                simp [hi] at e
                obtain ⟨rfl, rfl⟩ := e
                clear hi
                go_wp2_with (at_builtin; refine wpList_append_own_at _ rfl _ _ 25 rfl w3.heap.size 3 i0 (.int .i64 0) 1 8 Try.underlying25 hz0 hj0 hj1 hj2 rfl (by decide) _ n2 _ rfl (RA.out.alloc _) ⟨w5.heap.size, 0, none⟩ 1 1 [.int .i64 _] rfl rfl (fun i u hi => one_news w5 (.int .i64 _) 3 i u hi) (fun u hu => one_one _ u hu) ?c3a ?c4a ?c5a ?_)
                case c3a => unfold maxLen; omega
                case c4a => omega
                case c5a => first | (simp <;> omega) | omega
                intro v6 w6 hown6 hgrow6 _ hat6
                have O6 := Lib.hid (own_snoc hown6 HN2.out)
                obtain ⟨A6, c6, rfl, -⟩ := O6.out.form
                obtain ⟨n6, hn6⟩ : ∃ n, n2 + 1 = n := ⟨_, rfl⟩
                rw [List.length_append, HN2.out, List.length_singleton, hn6] at O6 hat6 ⊢
                have g6 := ((GrownL.of_below ((Below.refl w5.heap.size w5).alloc (Nat.le_refl _) (.cells #[.int .i64 _] 3))).trans (GrownL.of_row hgrow6))
                obtain ⟨f1, f2, f3, f4, f5⟩ := sgw2 G2.out S2.out R2.out O6.out g6 (hat6.imp (fun h => h) (fun h => ⟨_, h, by simp⟩))
                have F := Lib.hid (And.intro f1 (And.intro f2 f3))
                have RB : Hid ((w6.setCell ⟨w.heap.size + 1 + 1, 1, none⟩ (.slice A6 n6 c6)).ownsRow w3.heap.size 3 1 (.slice A3 n3 c3) n3 (l3.flatMap encI)) := Lib.hid (by have := f1.o3; unfold OwnG at this; rwa [HN3.out] at this)
                have x3 := f1.c3
                have z3 := f1.f3
                have hbs6 : w3.heap.size ≤ w6.heap.size := by have := g6.size; omega
                have hbs7 : w3.heap.size ≤ (w6.setCell ⟨w.heap.size + 1 + 1, 1, none⟩ (.slice A6 n6 c6)).heap.size := by simpa using hbs6
                clear f1 f2 f3 hown6 hgrow6 hat6 hn6 g6 x2 z2
                go_wp2_with (at_builtin; refine wpList_append_own_at _ rfl _ _ 25 rfl w3.heap.size 3 i0 (.int .i64 0) 1 8 Try.underlying25 hz0 hj0 hj1 hj2 rfl (by decide) _ n3 _ rfl (RB.out.alloc _) ⟨w6.heap.size, 0, none⟩ 1 1 [.int .i64 _] rfl rfl (fun i u hi => new_set w6 _ _ _ 3 i u hi) (fun u hu => one_one _ u hu) ?c3b ?c4b ?c5b ?_)
                case c3b => unfold maxLen; omega
                case c4b => omega
                case c5b => first | (simp <;> omega) | omega
                intro v7 w7 hown7 hgrow7 _ hat7
                have O7 := Lib.hid (own_snoc hown7 HN3.out)
                obtain ⟨A7, c7, rfl, -⟩ := O7.out.form
                obtain ⟨n7, hn7⟩ : ∃ n, n3 + 1 = n := ⟨_, rfl⟩
                rw [List.length_append, HN3.out, List.length_singleton, hn7] at O7 hat7 ⊢
                obtain ⟨f1, f2, f3, f6, f7⟩ := sgw3 F.out.1 F.out.2.1 F.out.2.2 O7.out ((GrownL.of_below ((Below.refl _ _).alloc (Nat.le_refl _) (.cells #[.int .i64 _] 3))).trans (GrownL.of_row hgrow7)) (hat7.imp (fun h => h) (fun h => ⟨_, h, by simp⟩))
                have FF := Lib.hid (And.intro f1 (And.intro f2 f3))
                clear f1 f2 f3 hown7 hgrow7 hat7 hn7 x3 z3 f4 f5 hbs6 hbs7
                go_wp2_with fail
                go_roundw
                case rel => exact ⟨n + 1, _, _, by go_num, by omega, by rw [HTO.out, HTR.out]; exact FF.out.1, FF.out.2.1, FF.out.2.2⟩
                case measure => show total ws - ((n : Int) + 1).toNat < total ws - (n : Int).toNat; omega
        · have hn0 : (total ws : Int) ≤ (n : Int) := by omega
          obtain rfl : n = total ws := by omega
          have HTO : Hid (((allP ws).take (total ws)).map (sgO (endE ws p.o.id)) = sigO ws p.o.id) := Lib.hid (by rw [List.take_of_length_le (by rw [allP_len]; exact Nat.le_refl _)]; rfl)
          have HTR : Hid (((allP ws).take (total ws)).map (sgR (endE ws p.o.id)) = sigR ws p.o.id) := Lib.hid (by rw [List.take_of_length_le (by rw [allP_len]; exact Nat.le_refl _)]; rfl)
          rw [HTO.out, HTR.out] at HG
          obtain ⟨A2, c2, rfl, -⟩ := HG.out.o2.form
          obtain ⟨A3, c3, rfl, -⟩ := HG.out.o3.form
          obtain ⟨n2, hn2⟩ : ∃ n, (sigO ws p.o.id).length = n := ⟨_, rfl⟩
          obtain ⟨n3, hn3⟩ : ∃ n, (sigR ws p.o.id).length = n := ⟨_, rfl⟩
          rw [hn2, hn3, ← HU1.out] at HG
          have x1 := HG.out.c1
          have x2 := HG.out.c2
          have x3 := HG.out.c3
          have x4 := SS.out.e3
          have r0 := SS.out.r0
          have r1 := SS.out.r1
          have r2 := SS.out.r2
          have r3 := SS.out.r3
          have z0 := SS.out.z 0
          have z1 := SS.out.z 1
          have z2 := SS.out.z 2
          have z3 := SS.out.z 3
          clear hn2 hn3 hn hn0 hnl HTO HTR
          go_wp2_with fail
          obtain ⟨X, hX⟩ : ∃ X, (((wo.setCell ⟨w.heap.size + 1, 0, none⟩ (.slice A1 m1 c1)).setCell ⟨w.heap.size + 1, 1, none⟩ (.slice A2 n2 c2)).setCell ⟨w.heap.size + 1, 2, none⟩ (.slice A3 n3 c3)).setCell ⟨w.heap.size + 1, 3, none⟩ (.int .i64 0) = X := ⟨_, rfl⟩
          obtain ⟨p0, p1, p2, p3, gx⟩ := set4 r0 r1 r2 r3 _ _ _ _ hX
          have HX := Lib.hid hX
          clear hX
          rw [HX.out]
          refine bodyPost_ret (v := .agg #[.slice A1 m1 c1, .slice A2 n2 c2, .slice A3 n3 c3, .int .i64 0]) (by simp [results, Try.results120, go_sem, p0, p1, p2, p3]) rfl ?_
          have hs3 := HGR.out.size
          have s3 := S3.out.siz
          have ow : ∀ u l, OwnG encI 1 3 w3.heap.size u l wo → OwnG encI 1 3 w.heap.size u l X := fun u l h => (h.grown gx (fun b hb hm => by have := (h.lt b hb).1; simp at hm; omega)).low (by omega)
          exact ⟨_, _, _, rfl, ow _ _ HG.out.o1, ow _ _ HG.out.o2, ow _ _ HG.out.o3, SS.out.bel.trans (gx.below (fun b hb => by simp at hb; omega) SS.out.bel.size)⟩
end Go.Proofs.Ytmmbmnihhdhbeaa

/- Contracts of Signs, and of the specification's Signs. -/
namespace Go.Proofs.Ytmmbmnihhdhbeaa
open Go.RowKit

def SignsR (ws : Wk) (id d : Int) (w : World) (e : Ending) (w' : World) : Prop := ∃ u1 u2 u3, e = .returned (.tuple #[u1, u2, u3, .int .i64 d]) ∧ OwnG encI 1 3 w.heap.size u1 (okL d (sigH ws id)) w' ∧ OwnG encI 1 3 w.heap.size u2 (okL d (sigO ws id)) w' ∧ OwnG encI 1 3 w.heap.size u3 (okL d (sigR ws id)) w' ∧ Below w.heap.size w w'
def rSignsR (ws : Wk) (id d : Int) (w : World) (e : Ending) (w' : World) : Prop := ∃ u1 u2 u3, e = .returned (.agg #[u1, u2, u3, .int .i64 d]) ∧ OwnG encI 1 3 w.heap.size u1 (okL d (sigH ws id)) w' ∧ OwnG encI 1 3 w.heap.size u2 (okL d (sigO ws id)) w' ∧ OwnG encI 1 3 w.heap.size u3 (okL d (sigR ws id)) w' ∧ Below w.heap.size w w'
set_option maxHeartbeats 8000000 in
set_option maxRecDepth 1000000 in
theorem Signs_any (v : Value) (ws : Wk) (id i d : Int) (w : World) (h : RK w.heap.size v ws w) (ht : total ws ≤ 100000) (hk : KnownIs ws id i d) :
    Calls Try.prog 33 #[.agg #[v], .int .i64 id] w (SignsR ws id d w) := by
  obtain ⟨A, c, rfl, -⟩ := (show ∃ A c, v = .slice A ws.length c ∧ True by obtain ⟨A, c, e, _⟩ := h; exact ⟨A, c, e, trivial⟩)
  have C1 := Lib.hid fun W (S : Wd w (.slice A ws.length c) W) => checkOutlet_any (.slice A ws.length c) ws id i d W (h.up S.siz S.bel) ht hk
  have C2 := Lib.hid fun (hw : WOk ws) (hid : (Lit.int .i64 id).wf = true) W (S : Wd w (.slice A ws.length c) W) => signsOf_any A c ws id W (h.up S.siz S.bel) hw hid
  have S0 := Lib.hid (Wd.new (w := w) (v := .slice A ws.length c) 24)
  have HK := Lib.hid hk
  clear h hk
  go_enter Try.func33, Try.ntmps33
  go_wp2_with fail
  refine (C1.out _ S0.out).mono ?_
  rintro e w1 ⟨rfl, b1⟩
  have S := Lib.hid (S0.out.below b1)
  clear b1
  by_cases h0 : d = 0
  rotate_left
  · have hdb : (d != 0) = true := by rw [bne_iff_ne]; exact h0
    have H0 := Lib.hid h0
    go_wp2_with fail
    refine bodyPost_ret (v := .tuple #[.slice none 0 0, .slice none 0 0, .slice none 0 0, .int .i64 d]) (by simp [results, Try.results33, go_sem]) rfl ?_
    exact ⟨_, _, _, rfl, by rw [okL_ne H0.out]; exact OwnG.nil _ _ _ _ _, by rw [okL_ne H0.out]; exact OwnG.nil _ _ _ _ _, by rw [okL_ne H0.out]; exact OwnG.nil _ _ _ _ _, S.out.bel⟩
  subst h0
  obtain ⟨n, p, rfl, hf, hp⟩ := HK.out.at_
  have hw := HK.out.chk.1
  have hpid := fst_id hf hp
  have HW := Lib.hid hw
  have HWF : Hid ((Lit.int .i64 id).wf = true) := Lib.hid (by rw [← hpid]; exact id_wf hw hp)
  have x0 := S.out.c
  clear hw hf hp hpid
  go_wp2_with fail
  refine (C2.out HW.out HWF.out _ S.out).mono ?_
  rintro e w2 ⟨v1, v2, v3, rfl, o1, o2, o3, b2⟩
  have S2 := Lib.hid (S.out.below b2)
  obtain ⟨A1, c1, rfl, -⟩ := o1.form
  obtain ⟨A2, c2, rfl, -⟩ := o2.form
  obtain ⟨A3, c3, rfl, -⟩ := o3.form
  obtain ⟨l1, hl1⟩ : ∃ l, sigH ws id = l := ⟨_, rfl⟩
  obtain ⟨l2, hl2⟩ : ∃ l, sigO ws id = l := ⟨_, rfl⟩
  obtain ⟨l3, hl3⟩ : ∃ l, sigR ws id = l := ⟨_, rfl⟩
  have HL := Lib.hid (And.intro hl1 (And.intro hl2 hl3))
  rw [hl1] at o1 ⊢
  rw [hl2] at o2 ⊢
  rw [hl3] at o3 ⊢
  obtain ⟨W3, hW3⟩ : ∃ W3, w2.alloc (.cells #[.slice A1 l1.length c1, .slice A2 l2.length c2, .slice A3 l3.length c3] 138) = W3 := ⟨_, rfl⟩
  have b3 : Below w2.heap.size w2 W3 := by rw [← hW3]; exact (Below.refl _ _).alloc (Nat.le_refl _) _
  have hws : w.heap.size ≤ w1.heap.size := S.out.siz
  have O1 := Lib.hid ((o1.below b3).low hws)
  have O2 := Lib.hid ((o2.below b3).low hws)
  have O3 := Lib.hid ((o3.below b3).low hws)
  have S3 := Lib.hid (S2.out.below b3)
  have Y : Hid (W3.cell? ⟨w2.heap.size, 0, none⟩ = some (.slice A1 l1.length c1) ∧ W3.cell? ⟨w2.heap.size, 1, none⟩ = some (.slice A2 l2.length c2) ∧ W3.cell? ⟨w2.heap.size, 2, none⟩ = some (.slice A3 l3.length c3)) := Lib.hid (by rw [← hW3]; exact ⟨by simp [go_sem], by simp [go_sem], by simp [go_sem]⟩)
  have HW3 := Lib.hid hW3
  clear o1 o2 o3 b2 b3 hW3 hl1 hl2 hl3 x0 hws
  go_upto_region 5 with fail
  rw [HW3.out]
  obtain ⟨y0, y1, y2⟩ := Y.out
  go_quiet (fail)
  go_wp2_with fail
  refine bodyPost_ret (v := .tuple #[.slice A1 l1.length c1, .slice A2 l2.length c2, .slice A3 l3.length c3, .int .i64 0]) (by simp [results, Try.results33, go_sem]) rfl ?_
  exact ⟨_, _, _, rfl, by rw [okL_zero, HL.out.1]; exact O1.out.below (below_drewN (Below.refl _ _) _), by rw [okL_zero, HL.out.2.1]; exact O2.out.below (below_drewN (Below.refl _ _) _), by rw [okL_zero, HL.out.2.2]; exact O3.out.below (below_drewN (Below.refl _ _) _), below_drewN S3.out.bel _⟩

/-- Works, and a result's block. -/
structure SgR (w : World) (v : Value) (W : World) : Prop where
  wk : W.cell? ⟨w.heap.size, 0, none⟩ = some v
  r0 : W.cell? ⟨w.heap.size + 1, 0, none⟩ = some (.slice none 0 0)
  r1 : W.cell? ⟨w.heap.size + 1, 1, none⟩ = some (.slice none 0 0)
  r2 : W.cell? ⟨w.heap.size + 1, 2, none⟩ = some (.slice none 0 0)
  r3 : W.cell? ⟨w.heap.size + 1, 3, none⟩ = some (.int .i64 0)
  z : ∀ i, W.frozen? ⟨w.heap.size + 1, i, none⟩ = false
  bel : Below w.heap.size w W
theorem SgR.siz {w W : World} {v : Value} (h : SgR w v W) : w.heap.size + 2 ≤ W.heap.size := World.block_lt_of_cell? _ _ h.r0
theorem SgR.below {w W W' : World} {v : Value} (h : SgR w v W) (hb : Below W.heap.size W W') : SgR w v W' :=
  ⟨BelS.c hb h.wk, BelS.c hb h.r0, BelS.c hb h.r1, BelS.c hb h.r2, BelS.c hb h.r3, fun i => (hb.frozen (p := ⟨w.heap.size + 1, i, none⟩) h.siz).trans (h.z i), h.bel.trans (hb.mono h.bel.size)⟩
set_option maxHeartbeats 8000000 in
set_option maxRecDepth 1000000 in
theorem rSigns_any (v : Value) (ws : Wk) (id i d : Int) (w : World) (h : RK w.heap.size v ws w) (ht : total ws ≤ 100000) (hk : KnownIs ws id i d) :
    Calls Try.prog 60 #[.agg #[v], .int .i64 id] w (rSignsR ws id d w) := by
  obtain ⟨A, c, rfl, -⟩ := (show ∃ A c, v = .slice A ws.length c ∧ True by obtain ⟨A, c, e, _⟩ := h; exact ⟨A, c, e, trivial⟩)
  have C1 := Lib.hid fun W (hb : Below w.heap.size w W) => rknown_any (.slice A ws.length c) ws id i d W (h.up hb.size hb) ht hk
  have C2 := Lib.hid fun (hw : WOk ws) (n : Nat) (p : Pl) (hp : (allP ws)[n]? = some p) W (hb : Below w.heap.size w W) => rsigns_any A c ws n p W (h.up hb.size hb) hw hp
  obtain ⟨W0, hW0⟩ : ∃ W0, (w.alloc (.cells #[.slice A ws.length c] 24)).alloc (.cells #[.slice none 0 0, .slice none 0 0, .slice none 0 0, .int .i64 0] 94) = W0 := ⟨_, rfl⟩
  have S0 : Hid (SgR w (.slice A ws.length c) W0) := Lib.hid (by rw [← hW0]; exact ⟨by simp [go_sem], by simp [go_sem], by simp [go_sem], by simp [go_sem], by simp [go_sem], fun i => by simp [go_sem], ((Below.refl _ _).alloc (Nat.le_refl _) _).alloc (by simp) _⟩)
  have HW0 := Lib.hid hW0
  have HK := Lib.hid hk
  clear h hk hW0
  go_enter Try.func60, Try.ntmps60
  go_upto_region 1 with fail
  rw [HW0.out]
  have x0 := S0.out.wk
  go_wp2_with fail
  refine (C1.out _ S0.out.bel).mono ?_
  rintro e w1 ⟨rfl, b1⟩
  have S := Lib.hid (S0.out.below b1)
  clear b1 x0
  by_cases h0 : d = 0
  rotate_left
  · have hdb : (d != 0) = true := by rw [bne_iff_ne]; exact h0
    have H0 := Lib.hid h0
    have r0 := S.out.r0
    have r1 := S.out.r1
    have r2 := S.out.r2
    have r3 := S.out.r3
    have z0 := S.out.z 0
    have z1 := S.out.z 1
    have z2 := S.out.z 2
    have z3 := S.out.z 3
    go_wp2_with fail
    obtain ⟨X, hX⟩ : ∃ X, (((w1.setCell ⟨w.heap.size + 1, 0, none⟩ (.slice none 0 0)).setCell ⟨w.heap.size + 1, 1, none⟩ (.slice none 0 0)).setCell ⟨w.heap.size + 1, 2, none⟩ (.slice none 0 0)).setCell ⟨w.heap.size + 1, 3, none⟩ (.int .i64 d) = X := ⟨_, rfl⟩
    obtain ⟨p0, p1, p2, p3, gx⟩ := set4 r0 r1 r2 r3 _ _ _ _ hX
    have HX := Lib.hid hX
    clear hX
    rw [HX.out]
    refine bodyPost_ret (v := .agg #[.slice none 0 0, .slice none 0 0, .slice none 0 0, .int .i64 d]) (by simp [results, Try.results60, go_sem, p0, p1, p2, p3]) rfl ?_
    exact ⟨_, _, _, rfl, by rw [okL_ne H0.out]; exact OwnG.nil _ _ _ _ _, by rw [okL_ne H0.out]; exact OwnG.nil _ _ _ _ _, by rw [okL_ne H0.out]; exact OwnG.nil _ _ _ _ _, S.out.bel.trans (gx.below (fun b hb => by simp at hb; omega) S.out.bel.size)⟩
  subst h0
  obtain ⟨n, p, rfl, hf, hp⟩ := HK.out.at_
  have hw := HK.out.chk.1
  have HP := Lib.hid hp
  have HPID := Lib.hid (fst_id hf hp)
  have HW := Lib.hid hw
  have x0 := S.out.wk
  clear hw hf hp
  go_wp2_with fail
  refine (C2.out HW.out n p HP.out _ S.out.bel).mono ?_
  rintro e w2 ⟨v1, v2, v3, rfl, o1, o2, o3, b2⟩
  rw [HPID.out] at o1 o2 o3
  have S2 := Lib.hid (S.out.below b2)
  obtain ⟨A1, c1, rfl, -⟩ := o1.form
  obtain ⟨A2, c2, rfl, -⟩ := o2.form
  obtain ⟨A3, c3, rfl, -⟩ := o3.form
  obtain ⟨l1, hl1⟩ : ∃ l, sigH ws id = l := ⟨_, rfl⟩
  obtain ⟨l2, hl2⟩ : ∃ l, sigO ws id = l := ⟨_, rfl⟩
  obtain ⟨l3, hl3⟩ : ∃ l, sigR ws id = l := ⟨_, rfl⟩
  have HL := Lib.hid (And.intro hl1 (And.intro hl2 hl3))
  rw [hl1] at o1 ⊢
  rw [hl2] at o2 ⊢
  rw [hl3] at o3 ⊢
  have O1 := Lib.hid o1
  have O2 := Lib.hid o2
  have O3 := Lib.hid o3
  have r0 := S2.out.r0
  have r1 := S2.out.r1
  have r2 := S2.out.r2
  have r3 := S2.out.r3
  have z0 := S2.out.z 0
  have z1 := S2.out.z 1
  have z2 := S2.out.z 2
  have z3 := S2.out.z 3
  clear o1 o2 o3 b2 hl1 hl2 hl3 x0
  go_wp2_with fail
  obtain ⟨X, hX⟩ : ∃ X, (((w2.setCell ⟨w.heap.size + 1, 0, none⟩ (.slice A1 l1.length c1)).setCell ⟨w.heap.size + 1, 1, none⟩ (.slice A2 l2.length c2)).setCell ⟨w.heap.size + 1, 2, none⟩ (.slice A3 l3.length c3)).setCell ⟨w.heap.size + 1, 3, none⟩ (.int .i64 0) = X := ⟨_, rfl⟩
  obtain ⟨p0, p1, p2, p3, gx⟩ := set4 r0 r1 r2 r3 _ _ _ _ hX
  have HX := Lib.hid hX
  clear hX
  rw [HX.out]
  refine bodyPost_ret (v := .agg #[.slice A1 l1.length c1, .slice A2 l2.length c2, .slice A3 l3.length c3, .int .i64 0]) (by simp [results, Try.results60, go_sem, p0, p1, p2, p3]) rfl ?_
  have s3 := S.out.siz
  have ow : ∀ u l, OwnG encI 1 3 w1.heap.size u l w2 → OwnG encI 1 3 w.heap.size u l X := fun u l h => (h.grown gx (fun b hb hm => by have := (h.lt b hb).1; simp at hm; omega)).low (by omega)
  exact ⟨_, _, _, rfl, by rw [okL_zero, HL.out.1]; exact ow _ _ O1.out, by rw [okL_zero, HL.out.2.1]; exact ow _ _ O2.out, by rw [okL_zero, HL.out.2.2]; exact ow _ _ O3.out, S2.out.bel.trans (gx.below (fun b hb => by simp at hb; omega) S2.out.bel.size)⟩
end Go.Proofs.Ytmmbmnihhdhbeaa

/- The law CarrierSigns, by its walk. -/
namespace Go.Proofs.Ytmmbmnihhdhbeaa
open Go.RowKit

/-- Signs in a block of their own. -/
structure In4 (g : Nat) (u1 u2 u3 : Value) (d : Int) (W : World) : Prop where
  l1 : W.cell? ⟨g, 0, none⟩ = some u1
  l2 : W.cell? ⟨g, 1, none⟩ = some u2
  l3 : W.cell? ⟨g, 2, none⟩ = some u3
  e : W.cell? ⟨g, 3, none⟩ = some (.int .i64 d)
theorem In4.below {g : Nat} {u1 u2 u3 : Value} {d : Int} {W W' : World} (h : In4 g u1 u2 u3 d W) (hb : Below W.heap.size W W') : In4 g u1 u2 u3 d W' := ⟨BelS.c hb h.l1, BelS.c hb h.l2, BelS.c hb h.l3, BelS.c hb h.e⟩

set_option maxHeartbeats 16000000 in
set_option maxRecDepth 1000000 in
theorem signs_law (A : Option Addr) (c : Nat) (ws : Wk) (id : Int) (w : World) (h : RK w.heap.size (.slice A ws.length c) ws w) :
    Calls Try.prog 11 #[.agg #[.slice A ws.length c], .int .i64 id] w fun e w' => e = .returned (.bool true) ∧ Below w.heap.size w w' := by
  have H := Lib.hid h
  have S0 := Lib.hid (Wd.new (w := w) (v := .slice A ws.length c) 24)
  clear h
  go_enter Try.func11, Try.ntmps11
  go_wp2_with fail
  refine (few_any A ws.length c ws _ (H.out.up S0.out.siz S0.out.bel)).mono ?_
  rintro e w1 ⟨b, rfl, hfew, b1⟩
  have S := Lib.hid (S0.out.below b1)
  have HFEW := Lib.hid hfew
  clear hfew b1 S0
  cases b
  · go_wp2_with fail
    refine (sanity_any _).mono ?_
    rintro e w2 ⟨rfl, b2⟩
    have S2 := Lib.hid (S.out.below b2)
    clear b2
    go_wp2_with fail
    go_ret
    exact ⟨rfl, S2.out.bel⟩
  have HT : Hid (total ws ≤ 90 ∧ ws.length ≤ 30) := Lib.hid (by have := HFEW.out (by trivial); have h1 := this.1; have h2 := this.2.1; omega)
  have ht : total ws ≤ 100000 := by have := HT.out; omega
  clear HFEW
  obtain ⟨i, d, hk⟩ := KnownIs.exists_ ws id
  have HK := Lib.hid hk
  have hw : d = 0 → WOk ws := fun e => by subst e; exact hk.chk.1
  obtain ⟨L1, hL1⟩ : ∃ L, okL d (sigH ws id) = L := ⟨_, rfl⟩
  obtain ⟨L2, hL2⟩ : ∃ L, okL d (sigO ws id) = L := ⟨_, rfl⟩
  obtain ⟨L3, hL3⟩ : ∃ L, okL d (sigR ws id) = L := ⟨_, rfl⟩
  have N1 : Hid (L1.length ≤ 100) := Lib.hid (by
    rw [← hL1]; unfold okL; split
    · have := headsL_len (hw (by assumption)); unfold sigH; unfold headsL at this; rw [List.length_map] at this ⊢; omega
    · simp)
  have N2 : Hid (L2.length ≤ 100) := Lib.hid (by
    rw [← hL2]; unfold okL; split
    · unfold sigO; rw [List.length_map, allP_len]; have := HT.out; omega
    · simp)
  have N3 : Hid (L3.length ≤ 100) := Lib.hid (by
    rw [← hL3]; unfold okL; split
    · unfold sigR; rw [List.length_map, allP_len]; have := HT.out; omega
    · simp)
  have C1 := Lib.hid fun W (S : Wd w (.slice A ws.length c) W) => Signs_any (.slice A ws.length c) ws id i d W (H.out.up S.siz S.bel) ht HK.out
  have C2 := Lib.hid fun W (S : Wd w (.slice A ws.length c) W) => rSigns_any (.slice A ws.length c) ws id i d W (H.out.up S.siz S.bel) ht HK.out
  unfold SignsR at C1
  unfold rSignsR at C2
  rw [hL1, hL2, hL3] at C1 C2
  clear hk hw hL1 hL2 hL3
  have x0 := S.out.c
  go_wp2_with fail
  refine (C1.out _ S.out).mono ?_
  rintro e w2 ⟨u1, u2, u3, rfl, o1, o2, o3, b2⟩
  have S2 := Lib.hid (S.out.below b2)
  obtain ⟨A1, c1, rfl, -⟩ := o1.form
  obtain ⟨A2, c2, rfl, -⟩ := o2.form
  obtain ⟨A3, c3, rfl, -⟩ := o3.form
  have O1 := Lib.hid o1
  have O2 := Lib.hid o2
  have O3 := Lib.hid o3
  clear o1 o2 o3 b2 x0
  have x0 := S2.out.c
  go_wp2_with fail
  refine (C2.out _ S2.out).mono ?_
  rintro e w3 ⟨v1, v2, v3, rfl, o1, o2, o3, b3⟩
  have S3 := Lib.hid (S2.out.below b3)
  replace O1 := Lib.hid (O1.out.below b3)
  replace O2 := Lib.hid (O2.out.below b3)
  replace O3 := Lib.hid (O3.out.below b3)
  obtain ⟨B1, d1, rfl, -⟩ := o1.form
  obtain ⟨B2, d2, rfl, -⟩ := o2.form
  obtain ⟨B3, d3, rfl, -⟩ := o3.form
  obtain ⟨W4, hW4⟩ : ∃ W4, w3.alloc (.cells #[.slice B1 L1.length d1, .slice B2 L2.length d2, .slice B3 L3.length d3, .int .i64 d] 94) = W4 := ⟨_, rfl⟩
  have b4 : Below w3.heap.size w3 W4 := by rw [← hW4]; exact (Below.refl _ _).alloc (Nat.le_refl _) _
  have I : Hid (In4 w3.heap.size (.slice B1 L1.length d1) (.slice B2 L2.length d2) (.slice B3 L3.length d3) d W4) := Lib.hid (by rw [← hW4]; exact ⟨by simp [go_sem], by simp [go_sem], by simp [go_sem], by simp [go_sem]⟩)
  have S := Lib.hid (S3.out.below b4)
  replace O1 := Lib.hid (O1.out.below b4)
  replace O2 := Lib.hid (O2.out.below b4)
  replace O3 := Lib.hid (O3.out.below b4)
  have P1 := Lib.hid (o1.below b4)
  have P2 := Lib.hid (o2.below b4)
  have P3 := Lib.hid (o3.below b4)
  have HW4 := Lib.hid hW4
  clear o1 o2 o3 b3 b4 hW4 x0 S2 S3
  go_upto_region 5 with fail
  rw [HW4.out]
  go_wp2_with fail
  refine (sanity_any _).mono ?_
  rintro e wa ⟨rfl, bb⟩
  replace S := Lib.hid (S.out.below bb)
  replace I := Lib.hid (I.out.below bb)
  replace O1 := Lib.hid (O1.out.below bb)
  replace O2 := Lib.hid (O2.out.below bb)
  replace O3 := Lib.hid (O3.out.below bb)
  replace P1 := Lib.hid (P1.out.below bb)
  replace P2 := Lib.hid (P2.out.below bb)
  replace P3 := Lib.hid (P3.out.below bb)
  clear bb
  have y1 := I.out.l1
  have y2 := I.out.l2
  have y3 := I.out.l3
  have y4 := I.out.e
  go_wp2_with fail
  refine (sameInts_any _ _ L1 _ (O1.out.rr EI (by have := N1.out; show L1.length ≤ 1000000000000000; omega)) (P1.out.rr EI (by have := N1.out; show L1.length ≤ 1000000000000000; omega)) (by have := N1.out; omega)).mono ?_
  rintro e wb1 ⟨rfl, bb⟩
  clear y1 y2 y3 y4
  replace S := Lib.hid (S.out.below bb)
  replace I := Lib.hid (I.out.below bb)
  replace O1 := Lib.hid (O1.out.below bb)
  replace O2 := Lib.hid (O2.out.below bb)
  replace O3 := Lib.hid (O3.out.below bb)
  replace P1 := Lib.hid (P1.out.below bb)
  replace P2 := Lib.hid (P2.out.below bb)
  replace P3 := Lib.hid (P3.out.below bb)
  clear bb
  have y1 := I.out.l1
  have y2 := I.out.l2
  have y3 := I.out.l3
  have y4 := I.out.e
  go_wp2_with fail
  refine (sameInts_any _ _ L2 _ (O2.out.rr EI (by have := N2.out; show L2.length ≤ 1000000000000000; omega)) (P2.out.rr EI (by have := N2.out; show L2.length ≤ 1000000000000000; omega)) (by have := N2.out; omega)).mono ?_
  rintro e wb2 ⟨rfl, bb⟩
  clear y1 y2 y3 y4
  replace S := Lib.hid (S.out.below bb)
  replace I := Lib.hid (I.out.below bb)
  replace O1 := Lib.hid (O1.out.below bb)
  replace O2 := Lib.hid (O2.out.below bb)
  replace O3 := Lib.hid (O3.out.below bb)
  replace P1 := Lib.hid (P1.out.below bb)
  replace P2 := Lib.hid (P2.out.below bb)
  replace P3 := Lib.hid (P3.out.below bb)
  clear bb
  have y1 := I.out.l1
  have y2 := I.out.l2
  have y3 := I.out.l3
  have y4 := I.out.e
  go_wp2_with fail
  refine (sameInts_any _ _ L3 _ (O3.out.rr EI (by have := N3.out; show L3.length ≤ 1000000000000000; omega)) (P3.out.rr EI (by have := N3.out; show L3.length ≤ 1000000000000000; omega)) (by have := N3.out; omega)).mono ?_
  rintro e wb3 ⟨rfl, bb⟩
  clear y1 y2 y3 y4
  replace S := Lib.hid (S.out.below bb)
  replace I := Lib.hid (I.out.below bb)
  replace O1 := Lib.hid (O1.out.below bb)
  replace O2 := Lib.hid (O2.out.below bb)
  replace O3 := Lib.hid (O3.out.below bb)
  replace P1 := Lib.hid (P1.out.below bb)
  replace P2 := Lib.hid (P2.out.below bb)
  replace P3 := Lib.hid (P3.out.below bb)
  clear bb
  have y4 := I.out.e
  go_wp2_with fail
  go_ret
  exact ⟨rfl, S.out.bel⟩
end Go.Proofs.Ytmmbmnihhdhbeaa

/- The law CarrierSigns holds for every input: the row. -/
namespace Go.Proofs.Ytmmbmnihhdhbeaa
open Go.ChangeShapes Go.WideShapes Go.ChangeAt Go.RowKit Go.Joins

namespace carrierSigns
def wargs : Array Value := #[.agg #[.slice none 0 0], .int .i64 0]
theorem laid_met (os : Os) : laidMet Try.prog Rows.carrierSignsRow.laid ((World.holding Try.prog os ⟨#[], #[], []⟩).forCall (fun _ _ => 0) ⟨#[], wargs, []⟩).memory :=
  laidMet_of_run' 8 (by kernel_rfl) (by kernel_rfl)
theorem reads (os : Os) {H : Type} (enc : TypeId × Value → H) : ∃ places, DataW.whole enc Try.prog ((World.holding Try.prog os ⟨#[], #[], []⟩).forCall (fun _ _ => 0) ⟨#[], wargs, []⟩).memory Try.f11.params.toList Rows.carrierSignsSpec.vars false wargs.toList 8 = some ([.agg [.nil], .lit (.int .i64 0)], [], places) :=
  ⟨[], by kernel_rfl⟩

set_option maxHeartbeats 1000000 in
set_option maxRecDepth 100000 in
/-- What the walk gives, for every argument. -/
theorem contract (H : Type) (enc : TypeId × Value → H) (W : World) (base : Nat) (args : Array Value) (ds gs : List (DataW H)) (before : List MemPlace)
    (hval : ∀ (j : Nat) t v, Try.f11.params[j]? = some t → args[j]? = some v → Value.okWide Try.prog W .any base t v)
    (hW : DataW.Whole enc Try.prog Try.f11.params.toList Rows.carrierSignsSpec.vars false W args.toList ds gs before)
    (hwt : (DataW.weightsEach Try.prog (Try.f11.params.toList ++ DataSpec.varTypes Try.prog (OpenSpec.ofChange Rows.carrierSignsSpec).bare.plain) (ds ++ gs)).all (· ≤ reachBytes) = true) :
    Calls Try.prog 11 args W fun e W' => ∃ v, e = .returned v ∧ Rows.carrierSignsSpec.post enc Try.prog Try.f11 false true false false W args v W' := by
  have hW' := hW
  obtain ⟨p, q, hA0, hV, rfl, hfz, hnd⟩ := hW
  have hA : DataW.TrodAll enc Try.prog W 0 (fun _ => true) true Try.f11.params.toList args.toList ds p := hA0
  have hAk := hA
  have hsize : ∀ t ∈ Try.f11.params.toList, t < Try.prog.types.size := by rw [Try.params11]; decide +kernel
  have hwt' := hwt
  rw [Try.params11] at hA hval hwt'
  obtain ⟨v0, vs0, d0, ds0, p0, q0, hargs, rfl, rfl, h0, r0⟩ := trodAll_cons hA
  obtain ⟨v1, vs1, d1, ds1, p1, q1, rfl, rfl, rfl, h1, r1⟩ := trodAll_cons r0
  obtain ⟨rfl, rfl, rfl⟩ := trodAll_nil r1
  obtain rfl : args = #[v0, v1] := by cases args; simp_all
  obtain ⟨rfl, rfl⟩ := trodVars_none hV
  obtain ⟨A, c, ws, rfl, hk⟩ := works_open (hval 0 24 v0 rfl rfl) h0 (WB.each _ _ hwt' 0 _ _ rfl rfl)
  obtain ⟨n, rfl, rfl, rfl, wn⟩ := open_int Try.underlying3 (hval 1 3 v1 rfl rfl) h1
  have hcall := signs_law A c ws n W hk
  refine hcall.mono fun e W' ⟨he, hb⟩ => ?_
  subst he
  refine ⟨_, rfl, _, _, _, [], _, [], hW', ?_, args_again hb hsize hAk, ?_, hb.frame _, fun h => by cases h⟩
  · exact trodAll_cons_mk (shut_bool Try.underlying4 _) trodAll_mk0
  · rfl

set_option maxRecDepth 100000 in
theorem lifted (os : Os) (started : os.Started) (H : Type) (enc : TypeId × Value → H) (F : Stop.Interp) :
    ReturnsInHanded {} Try.checked os 11 .any ((OpenSpec.ofChange Rows.carrierSignsSpec).preRow enc Try.prog Try.f11 Rows.carrierSignsRow.domain false Rows.carrierSignsRow.laid) (((OpenSpec.ofChange Rows.carrierSignsSpec).at F).post enc Try.prog Try.f11 false true false false) := by
  obtain ⟨places, hx⟩ := reads os enc
  refine returnsInHanded_of_row (C := Try.checked) (s := OpenSpec.ofChange Rows.carrierSignsSpec) own started (by kernel_rfl) Try.func11
    (witness_row_at (enc := enc) (C := Try.checked) false (World.holding Try.prog os ⟨#[], #[], []⟩) wargs rfl (by kernel_rfl) (by kernel_rfl) (by kernel_rfl)
      (OpenSpec.preRow_of_cond 8 hx (by kernel_rfl) (fun k hk => by cases hk) (by kernel_rfl) (laid_met os))) ?_
  intro W base args ds gs before hval hW _ _ hwt hL _ _
  exact contract H enc W base args ds gs before hval hW hwt

theorem said : Rows.CarrierSignsSaid :=
  OpenClaim.holds_of_cond 11 Try.f11 rfl rfl rfl rfl rfl rfl rfl ⟨rfl, rfl, rfl, rfl, rfl⟩ rfl rfl rfl rfl rfl (by kernel_rfl) Try.func11 (by kernel_rfl)
    (of_decide_eq_true (by kernel_rfl)) (by unfold Func.isWrapper; first | (rw [if_pos (by decide +kernel)]; kernel_rfl) | (rw [if_neg (by decide +kernel)]; exact ⟨rfl, rfl⟩))
    (fun os started H enc _ F => by rw [OpenClaim.pre_eq_preRow]; exact lifted os started H enc F)
end carrierSigns
theorem carrierSigns_holds : Rows.CarrierSignsSaid := carrierSigns.said
end Go.Proofs.Ytmmbmnihhdhbeaa
