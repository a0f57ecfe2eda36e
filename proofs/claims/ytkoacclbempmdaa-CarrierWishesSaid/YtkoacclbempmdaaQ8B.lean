/- Contract of the specification's Open. -/
import Derived.Test.YtkoacclbempmdaaQ8A
import Derived.Test.YtkoacclbempmdaaGZF
import Derived.Test.YtkoacclbempmdaaGI
import Derived.Maps.AppendAt
import Derived.Test.YtkoacclbempmdaaGZD
import Derived.Test.YtkoacclbempmdaaOO6
import Derived.Test.YtkoacclbempmdaaGJ
namespace Go.Proofs.Ytkoacclbempmdaa
open Go.RowKit

def rOpenR (ws : Wk) (s : Wa) (want i d : Int) (w : World) (e : Ending) (w' : World) : Prop := ∃ a r : Int, e = .returned (.tuple #[.int .i64 a, .int .i64 r]) ∧ (d ≠ 0 → a = 0 ∧ r = d) ∧ (d = 0 → ∀ p, (allP ws)[i.toNat]? = some p → LstIs p.o.ps.length (openP ws s want i.toNat) a r) ∧ Below w.heap.size w w'
set_option maxHeartbeats 16000000 in
set_option maxRecDepth 1000000 in
theorem rOpen_any (v wv : Value) (ws : Wk) (s : Wa) (id want i d : Int) (w : World) (h : RK w.heap.size v ws w) (ht : total ws ≤ 100000) (hs : RWa w.heap.size wv s w) (hd : WishAt ws s id want i d) :
    Calls Try.prog 71 #[.agg #[v], wv, .int .i64 id, .int .i64 want] w (rOpenR ws s want i d w) := by
  obtain ⟨A, c, rfl, -⟩ := (show ∃ A c, v = .slice A ws.length c ∧ True by obtain ⟨A, c, e, _⟩ := h; exact ⟨A, c, e, trivial⟩)
  obtain ⟨A1, c1, A2, c2, A3, c3, A4, c4, rfl⟩ := hs.form
  have S0 := Lib.hid (WW.new w (.slice A ws.length c) (.slice A1 s.river.length c1) (.slice A2 s.boards.length c2) (.slice A3 s.leaks.length c3) (.slice A4 s.losses.length c4))
  have C1 := Lib.hid fun W (hb : Below w.heap.size w W) => rwished_any (.slice A ws.length c) _ ws s id want i d W (h.up hb.size hb) ht (hs.up hb.size hb) hd
  have C2 := Lib.hid fun W (hb : Below w.heap.size w W) => routlets_any A ws.length c ws W (h.up hb.size hb) ht
  have H := Lib.hid h
  have HS := Lib.hid hs
  have HD := Lib.hid hd
  have HT := Lib.hid ht
  clear h hs hd ht
  go_enter Try.func71, Try.ntmps71
  go_wp2_with fail
  refine (C1.out _ S0.out.bel).mono ?_
  rintro e w1 ⟨rfl, b1⟩
  have S := Lib.hid (S0.out.below b1)
  clear b1 S0
  by_cases hd0 : d = 0
  rotate_left
  · have hdb : (d != 0) = true := by rw [bne_iff_ne]; exact hd0
    have HN := Lib.hid hd0
    go_wp2_with fail
    refine bodyPost_ret (results_tmp2 rfl _ _ _) rfl ?_
    exact ⟨0, d, rfl, fun _ => ⟨rfl, rfl⟩, fun h => absurd h HN.out, S.out.bel⟩
  subst hd0
  obtain ⟨hw, ho, -, n, p, rfl, hf, hp⟩ := HD.out.ok
  have HW := Lib.hid hw
  have HO := Lib.hid ho
  have HP := Lib.hid hp
  have x0 := S.out.wk
  clear hw ho hf hp
  go_wp2_with fail
  refine (C2.out _ S.out.bel).mono ?_
  rintro e w2 ⟨lv, rfl, hlv, b1⟩
  have RL : Hid (RO w2.heap.size lv (outs ws) w2) := Lib.hid (rl_in hlv (H.out.up S.out.bel.size S.out.bel) b1 b1.size HT.out)
  replace S := Lib.hid (S.out.below b1)
  obtain ⟨Al, cl, rfl, -⟩ := hlv.form
  rw [outs_len] at RL ⊢
  clear hlv b1 x0
  have hnt := lt_total HP.out
  have hn0 : (n : Int) < (total ws : Int) := by omega
  have hn1 : (0 : Int) ≤ (n : Int) := by omega
  have HNT := Lib.hid hnt
  have HB8 : Hid (p.o.ps.length ≤ 8 ∧ s.boards.length ≤ 1000 ∧ n < s.boards.length) := Lib.hid (by have := (HW.out.ou HP.out).pu; have := HO.out.b; have := HW.out.tot; omega)
  clear hnt
  go_wp2_with fail
  go_loopw [13] (fun b wr => ∃ k : Nat, b = .int .i64 k ∧ k ≤ p.o.ps.length ∧ (∀ j, j < k → openP ws s want n j = false) ∧ WW w (.slice A ws.length c) (.slice A1 s.river.length c1) (.slice A2 s.boards.length c2) (.slice A3 s.leaks.length c3) (.slice A4 s.losses.length c4) wr ∧ RO wr.heap.size (.slice Al (total ws) cl) (outs ws) wr) (fun b _ => p.o.ps.length - (intOf b).toNat)
  case atStart => exact ⟨0, rfl, by omega, fun j h => by omega, S.out, RL.out⟩
  case round =>
    obtain ⟨k, rfl, hk, hno, hS, hRL⟩ := hrel
    replace S := Lib.hid hS
    replace RL := Lib.hid hRL
    have HNO := Lib.hid hno
    clear hS hRL hno
    obtain ⟨b1, o1, hA1, hb1, hc1⟩ := ro_at RL.out (outs_get HP.out).1
    subst hA1
    have q2 : wr.cell? ⟨b1, o1 + n * 7 + 2, none⟩ = some (.slice p.o.pa p.o.ps.length p.o.pc) := hc1.pv
    obtain ⟨m, hm⟩ : ∃ m, p.o.ps.length = m := ⟨_, rfl⟩
    have HM := Lib.hid hm
    rw [hm] at q2 hk ⊢
    clear hc1 hb1 hm
    have hk8 : (k : Int) ≤ 8 := by have := HB8.out.1; have := HM.out; omega
    by_cases hkl : k < m
    · have hk0 : (k : Int) < (m : Int) := by omega
      have x1 := S.out.r
      have x2 := S.out.b
      have x3 := S.out.k
      have x4 := S.out.l
      go_upto_region 9 with fail
      obtain ⟨W1, hW1⟩ : ∃ W, wr.alloc (.cells #[.slice A1 s.river.length c1, .slice A2 s.boards.length c2, .slice A3 s.leaks.length c3, .slice A4 s.losses.length c4] 27) = W := ⟨_, rfl⟩
      have bW1 : Below wr.heap.size wr W1 := by rw [← hW1]; exact (Below.refl _ _).alloc (Nat.le_refl _) _
      have hsz : W1.heap.size = wr.heap.size + 1 := by rw [← hW1]; simp
      have K1 : W1.cell? ⟨wr.heap.size, 0, none⟩ = some (.slice A1 s.river.length c1) ∧ W1.cell? ⟨wr.heap.size, 1, none⟩ = some (.slice A2 s.boards.length c2) ∧ W1.cell? ⟨wr.heap.size, 2, none⟩ = some (.slice A3 s.leaks.length c3) ∧ W1.cell? ⟨wr.heap.size, 3, none⟩ = some (.slice A4 s.losses.length c4) ∧ W1.frozen? ⟨wr.heap.size, 1, none⟩ = false := by rw [← hW1]; exact ⟨by simp [go_sem], by simp [go_sem], by simp [go_sem], by simp [go_sem], by simp [go_sem]⟩
      rw [hW1]
      have S1 := Lib.hid (S.out.below bW1)
      have RL1 := Lib.hid (RL.out.up bW1.size bW1)
      obtain ⟨v', W', r1, o1', g1⟩ := copyI HS.out.parts.2.1 S1.out.bel (by have := HB8.out.2.1; omega)
      obtain ⟨Ag, cg, rfl, hAg⟩ := o1'.form
      obtain ⟨g, rfl⟩ := hAg (by have := HB8.out.2.2; omega)
      have hgg := o1'.lt g rfl
      have R1 := Lib.hid r1
      have y1 : (W1.alloc (.cells #[] 3)).cell? ⟨w.heap.size + 1, 1, none⟩ = some (.slice A2 s.boards.length c2) := (((Below.refl W1.heap.size W1).alloc (Nat.le_refl _) (.cells #[] 3)).cell (p := ⟨w.heap.size + 1, 1, none⟩) (World.block_lt_of_cell? _ _ S1.out.b)).trans S1.out.b
      have k1 := (g1.cell (p := ⟨wr.heap.size, 1, none⟩) (by show wr.heap.size < _; omega)).trans K1.2.1
      have z1 := (g1.frozen (p := ⟨wr.heap.size, 1, none⟩) (by show wr.heap.size < _; omega)).trans K1.2.2.2.2
      -- the store of the list
      obtain ⟨X, hX⟩ : ∃ X, W'.setCell ⟨wr.heap.size, 1, none⟩ (.slice (some ⟨g, 0, none⟩) s.boards.length cg) = X := ⟨_, rfl⟩
      have gX : GrownL [wr.heap.size] W' X := by rw [← hX]; exact GrownL.set _ _ _ (by simp)
      have oX := o1'.grown gX (fun b hb hm => by simp [Value.ownBlock] at hb hm; omega)
      have ow' : X.ownsRow W1.heap.size 3 1 (.slice (some ⟨g, 0, none⟩) s.boards.length cg) s.boards.length (s.boards.flatMap encI) := oX
      obtain ⟨y, hy⟩ : ∃ y, s.boards[n]? = some y := ⟨_, List.getElem?_eq_getElem HB8.out.2.2⟩
      have hat : (s.boards.flatMap encI)[n]? = some (.int .i64 y) := by have := EI.at_ s.boards n 0 y hy (by decide); rw [Nat.mul_one, Nat.add_zero] at this; exact this.trans rfl
      have u0 : X.cell? ⟨g, n, none⟩ = some (.int .i64 y) := (World.ownsRow.cellAt ow' n (by have := HB8.out.2.2; omega)).trans hat
      have u1 := World.ownsRow.frozenAt ow' n
      have u2 : X.cell? ⟨wr.heap.size, 1, none⟩ = some (.slice (some ⟨g, 0, none⟩) s.boards.length cg) := by rw [← hX]; exact World.cell?_setCell_same' _ _ _ (by rw [k1]; rfl)
      -- the store of the number
      obtain ⟨Y, hY⟩ : ∃ Y, X.setCell ⟨g, n, none⟩ (.int .i64 k) = Y := ⟨_, rfl⟩
      have gY : GrownL [g] X Y := by rw [← hY]; exact GrownL.set _ _ _ (by simp)
      have oY : OwnG encI 1 3 W1.heap.size (.slice (some ⟨g, 0, none⟩) s.boards.length cg) (s.boards.set n k) Y := by rw [← hY]; exact OwnG.set1 oX rfl n k
      have cX : ∀ j u, j ≠ 1 → W1.cell? ⟨wr.heap.size, j, none⟩ = some u → Y.cell? ⟨wr.heap.size, j, none⟩ = some u := fun j u hj hu => gY.cell (by rw [← hX]; exact (World.cell?_setCell_other _ ⟨wr.heap.size, 1, none⟩ ⟨wr.heap.size, j, none⟩ _ (by simp <;> omega)).trans ((g1.cell (p := ⟨wr.heap.size, j, none⟩) (by show wr.heap.size < _; omega)).trans hu)) (by simp; omega)
      have a0 := cX 0 _ (by decide) K1.1
      have a1 := gY.cell u2 (by simp; omega)
      have a2 := cX 2 _ (by decide) K1.2.2.1
      have a3 := cX 3 _ (by decide) K1.2.2.2.1
      have bY : Below wr.heap.size wr Y := bW1.trans ((g1.mono (by omega)).trans ((gX.below (by simp) (by have := g1.size; omega)).trans (gY.below (by simp; omega) (by have := g1.size; have := gX.size; omega))))
      have SY := Lib.hid (S.out.below bY)
      have RLY := Lib.hid (RL.out.up bY.size bY)
      have OY := Lib.hid oY
      have HY := Lib.hid hY
      have HX := Lib.hid hX
      have HBK := Lib.hid (setB_ok HO.out HP.out (k := (k : Int)) (by omega) (by have := HM.out; omega))
      have hnb : (n : Int) < (s.boards.length : Int) := by have := HB8.out.2.2; omega
      have RY : Hid (RWa Y.heap.size (.agg #[.slice A1 s.river.length c1, .slice (some ⟨g, 0, none⟩) s.boards.length cg, .slice A3 s.leaks.length c3, .slice A4 s.losses.length c4]) (setB s n k) Y) := Lib.hid ⟨_, _, _, _, rfl, (HS.out.parts.1).up SY.out.bel.size SY.out.bel, by
        have := OY.out.rr EI (by rw [List.length_set]; have := HB8.out.2.1; show s.boards.length ≤ 1000000000000000; omega)
        exact this, (HS.out.parts.2.2.1).up SY.out.bel.size SY.out.bel, (HS.out.parts.2.2.2).up SY.out.bel.size SY.out.bel⟩
      have y0 := SY.out.wk
      clear r1 hW1 hX hY o1' oX oY ow' hat hy gX gY cX hgg g1 hsz hAg K1 bW1 bY q2 x1 x2 x3 x4
      go_upto_region 10 with (at_builtin; refine Lib.wpList_append_run _ rfl _ _ _ _ rfl _ _ rfl rfl _ W' R1.out ?_)
      rw [HX.out]
      clear y1 k1 z1
      go_upto_region 11 with fail
      rw [HY.out]
      clear u0 u1 u2
      go_wp2_with fail
      refine (rflow_any A c _ ws (setB s n k) _ (H.out.up SY.out.bel.size SY.out.bel) RY.out HW.out HBK.out).mono ?_
      rintro e w5 ⟨v1, v2, rfl, q1, q2, b5⟩
      have S5 := Lib.hid (SY.out.below b5)
      have RL5 := Lib.hid (RLY.out.up b5.size b5)
      have hl1 : (flowF ws (setB s n k)).thr.length = total ws := thr_len ws _ _ (Nat.le_refl _)
      obtain ⟨x, hx⟩ : ∃ x, (flowF ws (setB s n k)).thr[n]? = some x := ⟨_, List.getElem?_eq_getElem (by have := HNT.out; omega)⟩
      have hop : openP ws s want n k = decide (want ≤ x) := by unfold openP; rw [List.getD_eq_getElem?_getD, hx]; rfl
      have HOP := Lib.hid hop
      obtain ⟨U1, d1, rfl, -⟩ := q1.form
      obtain ⟨U2, d2, rfl, -⟩ := q2.form
      have R5 := Lib.hid (q1.rr EI (by rw [hl1]; have := HT.out; show total ws ≤ 1000000000000000; omega))
      obtain ⟨L, hL⟩ : ∃ L, (flowF ws (setB s n k)).lost = L := ⟨_, rfl⟩
      obtain ⟨m2, hm2⟩ : ∃ L, (tailsL ws (setB s n k)).length = L := ⟨_, rfl⟩
      rw [hl1] at R5 ⊢
      rw [hL, hm2]
      obtain ⟨bf, of, rfl, -, q5⟩ := R5.out.int hx
      have fl := fl_field0 (some ⟨bf, of, none⟩) U2 (total ws) d1 m2 d2 L w5
      clear q1 q2 b5 hl1 hx hop hL hm2 a0 a1 a2 a3 y0
      by_cases hwx : want ≤ x
      · have HPR : Hid (openP ws s want n k = true) := Lib.hid (by rw [HOP.out]; exact decide_eq_true hwx)
        go_wp2_with fail
        refine bodyPost_ret (results_tmp2 rfl _ _ _) rfl ?_
        exact ⟨k, 0, rfl, fun h => absurd rfl h, fun _ p' hp' => by
          rw [Int.toNat_natCast] at hp' ⊢
          rw [HP.out] at hp'
          cases hp'
          exact .inl ⟨k, by rw [HM.out]; exact hkl, rfl, rfl, HPR.out, HNO.out⟩, S5.out.bel⟩
      · have HPR : Hid (openP ws s want n k = false) := Lib.hid (by rw [HOP.out]; exact decide_eq_false hwx)
        go_wp2_with fail
        go_roundw
        case rel => exact ⟨k + 1, by go_num, by omega, fun j hj => by
          rcases Nat.lt_or_ge j k with h | h
          · exact HNO.out j h
          · obtain rfl : j = k := by omega
            exact HPR.out, S5.out, RL5.out⟩
        case measure => show m - ((k : Int) + 1).toNat < m - (k : Int).toNat; omega
    · have hk0 : (m : Int) ≤ (k : Int) := by omega
      obtain rfl : k = m := by omega
      go_wp2_with fail
      refine bodyPost_ret (results_tmp2 rfl _ _ _) rfl ?_
      exact ⟨0, 5, rfl, fun h => absurd rfl h, fun _ p' hp' => by
        rw [Int.toNat_natCast] at hp' ⊢
        rw [HP.out] at hp'
        cases hp'
        exact .inr ⟨fun j hj => HNO.out j (by rw [HM.out] at hj; exact hj), rfl, rfl⟩, S.out.bel⟩
end Go.Proofs.Ytkoacclbempmdaa

/- Contract of the specification's signs. -/
namespace Go.Proofs.Ytkoacclbempmdaa
open Go.RowKit

theorem fst_of_head {ws : Wk} {c : Nat} (h : c ∈ headsN ws) : FstIs (fun o : Ou => o.into) (outs ws) (c : Int) (-1) := by
  refine .inr ⟨fun j o ho he => ?_, rfl⟩
  unfold headsN at h
  rw [List.mem_filter] at h
  have h2 := h.2
  unfold fedB at h2
  rw [Bool.not_eq_true', List.any_eq_false] at h2
  obtain ⟨p, hp⟩ := at_total (ws := ws) (n := j) (by have := (List.getElem?_eq_some_iff.1 ho).1; rw [outs_len] at this; exact this)
  have hop : p.o = o := by have := (outs_get hp).1; rw [ho] at this; cases this; rfl
  have := h2 p (List.mem_of_getElem? hp)
  rw [hop] at this
  simp [he] at this
/-- The sign of a head. -/
theorem sgH_at {ws : Wk} (hw : WOk ws) {i k0 : Nat} {p q0 : Pl} {r : List Nat} (hp : (allP ws)[i]? = some p) (hl : pathOf ws i = k0 :: r) (hq : (allP ws)[k0]? = some q0) {c : Nat} (hc : c ∈ headsN ws) : sgH (endE ws p.o.id) c = if (c : Int) = q0.c then 1 else 0 := by
  unfold sgH
  by_cases e : c = q0.c
  · subst e
    rw [endE_at hw hp (by rw [hl]; simp) hq, if_pos rfl]
    omega
  · rw [endE_none hw hp (fun k hk q hqk he => ?_), if_neg (by omega)]
    · rfl
    · have hf := fst_of_head hc
      rw [← he] at hf
      have := (pathOf_is hw (lt_total hp)).fed hw k hk q hqk hf
      rw [hl] at this
      simp at this
      subst this
      rw [hq] at hqk
      cases hqk
      exact e he.symm
/-- Whether an outlet lies ahead of one of some outlets, on the same carrier. -/
def ahB (ws : Wk) (L : List Nat) (q : Pl) : Bool := L.any fun k => match (allP ws)[k]? with
  | some q' => decide (q'.c = q.c) && decide (q.n < q'.n)
  | none => false
theorem ahB_snoc {ws : Wk} {L : List Nat} {j k : Nat} {q q' : Pl} (hj : L[j]? = some k) (hk : (allP ws)[k]? = some q') : ahB ws (L.take (j + 1)) q = (ahB ws (L.take j) q || (decide (q'.c = q.c) && decide (q.n < q'.n))) := by
  unfold ahB
  rw [take_snoc_get hj, List.any_append]
  simp [hk]
/-- The signs of an outlet and of its reach. -/
theorem sg_at {ws : Wk} (hw : WOk ws) {i m : Nat} {p q : Pl} (hp : (allP ws)[i]? = some p) (hq : (allP ws)[m]? = some q) :
    sgO (endE ws p.o.id) q = (if m ∈ pathOf ws i then 1 else if ahB ws (pathOf ws i) q then -1 else 0) ∧ sgR (endE ws p.o.id) q = (if m ∈ pathOf ws i then -1 else if ahB ws (pathOf ws i) q then -1 else 0) := by
  have hP := pathOf_is hw (lt_total hp)
  by_cases hm : m ∈ pathOf ws i
  · have e := endE_at hw hp hm hq
    rw [if_pos hm, if_pos hm]
    unfold sgO sgR
    rw [e, if_pos (by omega), if_pos (by omega)]
    exact ⟨rfl, rfl⟩
  rw [if_neg hm, if_neg hm]
  by_cases hc : ∃ k ∈ pathOf ws i, ∃ q', (allP ws)[k]? = some q' ∧ q'.c = q.c
  · obtain ⟨k, hk, q', hq', hcc⟩ := hc
    have e := endE_at hw hp hk hq'
    rw [hcc] at e
    have hne : q.n ≠ q'.n := fun hn => by
      have : m = k := by
        have h1 := (allP_inv hq).2
        have h2 := (allP_inv hq').2
        obtain ⟨_, _, _, h3⟩ := h1
        obtain ⟨_, _, _, h4⟩ := h2
        rw [hcc, ← hn] at h4
        omega
      exact hm (this ▸ hk)
    have ha : ahB ws (pathOf ws i) q = decide (q.n < q'.n) := by
      unfold ahB
      by_cases hlt : q.n < q'.n
      · rw [decide_eq_true hlt, List.any_eq_true]
        exact ⟨k, hk, by simp [hq', hcc, hlt]⟩
      · rw [decide_eq_false hlt, List.any_eq_false]
        intro k' hk'
        cases hx : (allP ws)[k']? with
        | none => simp
        | some q'' =>
          simp only [Bool.not_eq_true, Bool.and_eq_false_iff, decide_eq_false_iff_not]
          by_cases hc' : q''.c = q.c
          · right
            have := hP.one hw k hk k' hk' q' q'' hq' hx (by omega)
            subst this
            rw [hq'] at hx
            cases hx
            exact hlt
          · left; exact hc'
    rw [ha]
    unfold sgO sgR
    rw [e, if_neg (by omega)]
    by_cases hlt : q.n < q'.n
    · rw [if_pos (by omega), decide_eq_true hlt]; exact ⟨rfl, rfl⟩
    · rw [if_neg (by omega), decide_eq_false hlt]; exact ⟨rfl, rfl⟩
  · have e := endE_none hw hp (c := q.c) (fun k hk q' hq' h => hc ⟨k, hk, q', hq', h⟩)
    have ha : ahB ws (pathOf ws i) q = false := by
      unfold ahB
      rw [List.any_eq_false]
      intro k' hk'
      cases hx : (allP ws)[k']? with
      | none => simp
      | some q'' =>
        have : ¬ q''.c = q.c := fun h => hc ⟨k', hk', q'', hx, h⟩
        simp [this]
    rw [ha]
    unfold sgO sgR
    rw [e, if_neg (by omega), if_neg (by omega)]
    exact ⟨rfl, rfl⟩

/-- What the specification's signs keep besides their lists. -/
structure SgW (w : World) (v : Value) (W : World) : Prop where
  wk : W.cell? ⟨w.heap.size, 0, none⟩ = some v
  r0 : W.cell? ⟨w.heap.size + 1, 0, none⟩ = some (.slice none 0 0)
  r1 : W.cell? ⟨w.heap.size + 1, 1, none⟩ = some (.slice none 0 0)
  r2 : W.cell? ⟨w.heap.size + 1, 2, none⟩ = some (.slice none 0 0)
  r3 : W.cell? ⟨w.heap.size + 1, 3, none⟩ = some (.int .i64 0)
  z : ∀ i, W.frozen? ⟨w.heap.size + 1, i, none⟩ = false
  e3 : W.cell? ⟨w.heap.size + 1 + 1, 3, none⟩ = some (.int .i64 0)
  bel : Below w.heap.size w W
section
variable {w W W' : World} {v : Value}
theorem SgW.siz (h : SgW w v W) : w.heap.size + 3 ≤ W.heap.size := World.block_lt_of_cell? _ _ h.e3
theorem SgW.grown {bs : List Nat} (h : SgW w v W) (hg : GrownL bs W W') (hn : ∀ k ∈ bs, w.heap.size + 3 ≤ k) : SgW w v W' := by
  have n0 : ∀ k, k < w.heap.size + 3 → k ∉ bs := fun k hk hm => by have := hn k hm; omega
  exact ⟨hg.cell h.wk (n0 _ (by show w.heap.size < _; omega)), hg.cell h.r0 (n0 _ (by show w.heap.size + 1 < _; omega)), hg.cell h.r1 (n0 _ (by show w.heap.size + 1 < _; omega)), hg.cell h.r2 (n0 _ (by show w.heap.size + 1 < _; omega)), hg.cell h.r3 (n0 _ (by show w.heap.size + 1 < _; omega)),
    fun i => (World.frozen?_of_block (a := ⟨w.heap.size + 1, i, none⟩) (hg.block (w.heap.size + 1) (World.block_lt_of_cell? _ _ h.r0) (n0 _ (by omega)))).trans (h.z i), hg.cell h.e3 (n0 _ (by show w.heap.size + 1 + 1 < _; omega)), h.bel.trans (hg.below (fun k hk => by have := hn k hk; omega) h.bel.size)⟩
theorem SgW.below (h : SgW w v W) (hb : Below W.heap.size W W') : SgW w v W' := h.grown (GrownL.of_below (bs := []) hb) (by simp)
theorem SgW.set (h : SgW w v W) {j : Nat} (hj : j < 3) (u : Value) : SgW w v (W.setCell ⟨w.heap.size + 1 + 1, j, none⟩ u) := by
  have gs : GrownL [w.heap.size + 2] W (W.setCell ⟨w.heap.size + 1 + 1, j, none⟩ u) := GrownL.set _ _ _ (by simp)
  have n0 : ∀ k, k < w.heap.size + 2 → k ∉ [w.heap.size + 2] := fun k hk hm => by simp at hm; omega
  exact ⟨gs.cell h.wk (n0 _ (by show w.heap.size < _; omega)), gs.cell h.r0 (n0 _ (by show w.heap.size + 1 < _; omega)), gs.cell h.r1 (n0 _ (by show w.heap.size + 1 < _; omega)), gs.cell h.r2 (n0 _ (by show w.heap.size + 1 < _; omega)), gs.cell h.r3 (n0 _ (by show w.heap.size + 1 < _; omega)),
    fun i => (World.frozen?_setCell _ _ _ _).trans (h.z i), (World.cell?_setCell_other _ ⟨w.heap.size + 1 + 1, j, none⟩ ⟨w.heap.size + 1 + 1, 3, none⟩ _ (by simp <;> omega)).trans h.e3, h.bel.trans (gs.below (fun k hk => by simp at hk; omega) h.bel.size)⟩
end

/-- Four cells of a block are written. -/
theorem set4 {W : World} {b : Nat} {a0 a1 a2 a3 : Value} (h0 : W.cell? ⟨b, 0, none⟩ = some a0) (h1 : W.cell? ⟨b, 1, none⟩ = some a1) (h2 : W.cell? ⟨b, 2, none⟩ = some a2) (h3 : W.cell? ⟨b, 3, none⟩ = some a3) (v0 v1 v2 v3 : Value) {X : World} (hX : (((W.setCell ⟨b, 0, none⟩ v0).setCell ⟨b, 1, none⟩ v1).setCell ⟨b, 2, none⟩ v2).setCell ⟨b, 3, none⟩ v3 = X) :
    X.cell? ⟨b, 0, none⟩ = some v0 ∧ X.cell? ⟨b, 1, none⟩ = some v1 ∧ X.cell? ⟨b, 2, none⟩ = some v2 ∧ X.cell? ⟨b, 3, none⟩ = some v3 ∧ GrownL [b] W X := by
  subst hX
  have n : ∀ i j, i ≠ j → ∀ (X : World) (v : Value), (X.setCell ⟨b, i, none⟩ v).cell? ⟨b, j, none⟩ = X.cell? ⟨b, j, none⟩ := fun i j hij X v => World.cell?_setCell_other _ ⟨b, i, none⟩ ⟨b, j, none⟩ _ (by simp <;> omega)
  obtain ⟨p0, p1, p2, g⟩ := set3 h0 h1 h2 v0 v1 v2
  refine ⟨by rw [n 3 0 (by decide), p0], by rw [n 3 1 (by decide), p1], by rw [n 3 2 (by decide), p2], World.cell?_setCell_same' _ _ _ (by rw [n 2 3 (by decide), n 1 3 (by decide), n 0 3 (by decide), h3]; rfl), g.trans (GrownL.set _ _ _ (by simp))⟩

theorem sgw2 {w w3 W w4 : World} {v u1 u2 u3 v4 : Value} {l1 l2 l3 : List Int} {y : Int} (HG : G3 (w.heap.size + 1 + 1) w3.heap.size u1 u2 u3 l1 l2 l3 W) (SS : SgW w v W) (HGR : GrownL [w.heap.size + 1 + 1] w3 W) (ho : OwnG encI 1 3 w3.heap.size v4 (l2 ++ [y]) w4) (hg : GrownL u2.ownBlock.toList W w4) (ha : v4.ownBlock = u2.ownBlock ∨ ∃ n, v4.ownBlock = some n ∧ W.heap.size ≤ n) :
    G3 (w.heap.size + 1 + 1) w3.heap.size u1 v4 u3 l1 (l2 ++ [y]) l3 (w4.setCell ⟨w.heap.size + 1 + 1, 1, none⟩ v4) ∧ SgW w v (w4.setCell ⟨w.heap.size + 1 + 1, 1, none⟩ v4) ∧ GrownL [w.heap.size + 1 + 1] w3 (w4.setCell ⟨w.heap.size + 1 + 1, 1, none⟩ v4) ∧ w4.cell? ⟨w.heap.size + 1 + 1, 1, none⟩ = some u2 ∧ w4.frozen? ⟨w.heap.size + 1 + 1, 1, none⟩ = false := by
  have hlt := fun b (hb : b ∈ u2.ownBlock.toList) => (HG.o2.lt b (by simpa using hb))
  have hgb := HG.gb
  have hn4 : w.heap.size + 1 + 1 ∉ u2.ownBlock.toList := fun hm => by have := (hlt _ hm).1; omega
  refine ⟨HG.app2 hg ho ha, (SS.grown hg (fun b hb => by have := (hlt b hb).1; omega)).set (by decide) _, ?_, hg.cell HG.c2 hn4, (World.frozen?_of_block (a := ⟨w.heap.size + 1 + 1, 1, none⟩) (hg.block _ HG.lt hn4)).trans HG.f2⟩
  exact HGR.newer ((hg.mono (bs' := (w.heap.size + 1 + 1) :: u2.ownBlock.toList) (by simp +contextual)).trans (GrownL.set _ _ _ (by simp))) (fun b hb => (hlt b hb).1)

theorem sgw3 {w w3 W w4 : World} {v u1 u2 u3 v4 : Value} {l1 l2 l3 : List Int} {y : Int} (HG : G3 (w.heap.size + 1 + 1) w3.heap.size u1 u2 u3 l1 l2 l3 W) (SS : SgW w v W) (HGR : GrownL [w.heap.size + 1 + 1] w3 W) (ho : OwnG encI 1 3 w3.heap.size v4 (l3 ++ [y]) w4) (hg : GrownL u3.ownBlock.toList W w4) (ha : v4.ownBlock = u3.ownBlock ∨ ∃ n, v4.ownBlock = some n ∧ W.heap.size ≤ n) :
    G3 (w.heap.size + 1 + 1) w3.heap.size u1 u2 v4 l1 l2 (l3 ++ [y]) (w4.setCell ⟨w.heap.size + 1 + 1, 2, none⟩ v4) ∧ SgW w v (w4.setCell ⟨w.heap.size + 1 + 1, 2, none⟩ v4) ∧ GrownL [w.heap.size + 1 + 1] w3 (w4.setCell ⟨w.heap.size + 1 + 1, 2, none⟩ v4) ∧ w4.cell? ⟨w.heap.size + 1 + 1, 2, none⟩ = some u3 ∧ w4.frozen? ⟨w.heap.size + 1 + 1, 2, none⟩ = false := by
  have hlt := fun b (hb : b ∈ u3.ownBlock.toList) => (HG.o3.lt b (by simpa using hb))
  have hgb := HG.gb
  have hn4 : w.heap.size + 1 + 1 ∉ u3.ownBlock.toList := fun hm => by have := (hlt _ hm).1; omega
  refine ⟨HG.app3 hg ho ha, (SS.grown hg (fun b hb => by have := (hlt b hb).1; omega)).set (by decide) _, ?_, hg.cell HG.c3 hn4, (World.frozen?_of_block (a := ⟨w.heap.size + 1 + 1, 2, none⟩) (hg.block _ HG.lt hn4)).trans HG.f3⟩
  exact HGR.newer ((hg.mono (bs' := (w.heap.size + 1 + 1) :: u3.ownBlock.toList) (by simp +contextual)).trans (GrownL.set _ _ _ (by simp))) (fun b hb => (hlt b hb).1)

set_option maxHeartbeats 16000000 in
set_option maxRecDepth 1000000 in
theorem rsigns_any (A : Option Addr) (c : Nat) (ws : Wk) (i : Nat) (p : Pl) (w : World) (h : RK w.heap.size (.slice A ws.length c) ws w) (hw : WOk ws) (hp : (allP ws)[i]? = some p) :
    Calls Try.prog 120 #[.agg #[.slice A ws.length c], .int .i64 i] w fun e w' => ∃ v1 v2 v3, e = .returned (.agg #[v1, v2, v3, .int .i64 0]) ∧ OwnG encI 1 3 w.heap.size v1 (sigH ws p.o.id) w' ∧ OwnG encI 1 3 w.heap.size v2 (sigO ws p.o.id) w' ∧ OwnG encI 1 3 w.heap.size v3 (sigR ws p.o.id) w' ∧ Below w.heap.size w w' := by
  obtain ⟨i0, hz0, hj0, hj1, hj2⟩ := info_parts infoInt
  have ht : total ws ≤ 100000 := by have := hw.tot; omega
  have hln : ws.length ≤ 100000 := by have := hw.len; omega
  have C1 := Lib.hid fun W (hb : Below w.heap.size w W) => rplaces_any A ws.length c ws W (h.up hb.size hb) ht
  have C2 := Lib.hid fun (L : List Nat) (hL : PathIs ws i L) W (hb : Below w.heap.size w W) => rpath_any (.slice A ws.length c) ws i L W (h.up hb.size hb) hw hL
  have C3 := Lib.hid fun W (hb : Below w.heap.size w W) => rheads_any A ws.length c ws W (h.up hb.size hb) ht hln
  have HW := Lib.hid hw
  have HP := Lib.hid hp
  obtain ⟨W0, hW0⟩ : ∃ W0, (((w.alloc (.cells #[.slice A ws.length c] 24)).alloc (.cells #[.slice none 0 0, .slice none 0 0, .slice none 0 0, .int .i64 0] 94)).alloc (.cells #[.slice none 0 0, .slice none 0 0, .slice none 0 0, .int .i64 0] 94)) = W0 := ⟨_, rfl⟩
  have S0 : Hid (SgW w (.slice A ws.length c) W0) := Lib.hid (by rw [← hW0]; exact ⟨by simp [go_sem], by simp [go_sem], by simp [go_sem], by simp [go_sem], by simp [go_sem], fun i => by simp [go_sem], by simp [go_sem], (((Below.refl _ _).alloc (Nat.le_refl _) _).alloc (by simp) _).alloc (by simp; omega) _⟩)
  have B0 : Hid ((∀ j, j < 3 → W0.cell? ⟨w.heap.size + 1 + 1, j, none⟩ = some (.slice none 0 0)) ∧ ∀ j, W0.frozen? ⟨w.heap.size + 1 + 1, j, none⟩ = false) := Lib.hid (by
    rw [← hW0]
    refine ⟨fun j hj => ?_, fun j => by simp [go_sem]⟩
    match j, hj with
    | 0, _ => simp [go_sem]
    | 1, _ => simp [go_sem]
    | 2, _ => simp [go_sem]
    | j + 3, hj => omega)
  have HW0 := Lib.hid hW0
  clear h hw hp ht hln hW0
  obtain ⟨L, hL⟩ : ∃ L, pathOf ws i = L := ⟨_, rfl⟩
  have HPI : Hid (PathIs ws i L) := Lib.hid (by rw [← hL]; exact pathOf_is HW.out (lt_total HP.out))
  have HLL := Lib.hid hL
  clear hL
  obtain ⟨k0, r, q0, hl0, hq0, -⟩ := HPI.out.top
  have HK0 := Lib.hid (And.intro hl0 hq0)
  clear hl0 hq0
  go_enter Try.func120, Try.ntmps120
  go_upto_region 2 with fail
  rw [HW0.out]
  have x0 := S0.out.wk
  go_wp2_with fail
  refine (C1.out _ S0.out.bel).mono ?_
  rintro e w1 ⟨pv, rfl, hpv, b1⟩
  have S1 := Lib.hid (S0.out.below b1)
  have P1 := Lib.hid hpv
  have D1 := Lib.hid b1
  obtain ⟨Ap, cp, rfl, -⟩ := hpv.form
  rw [plL_len] at P1 ⊢
  have x0 := S1.out.wk
  clear hpv b1
  go_wp2_with fail
  refine (C2.out L HPI.out _ S1.out.bel).mono ?_
  rintro e w2 ⟨ov, rfl, hov, b2⟩
  have S2 := Lib.hid (S1.out.below b2)
  have P2 := Lib.hid (P1.out.below b2)
  have O2 := Lib.hid hov
  have D2 := Lib.hid (D1.out.trans (b2.mono D1.out.size))
  obtain ⟨Ao, co, rfl, -⟩ := hov.form
  rw [List.length_map] at O2 ⊢
  have x0 := S2.out.wk
  clear hov b2
  go_wp2_with fail
  refine (C3.out _ S2.out.bel).mono ?_
  rintro e w3 ⟨hv, rfl, hhv, b3⟩
  have S3 := Lib.hid (S2.out.below b3)
  have P3 := Lib.hid ((P2.out.below b3).rr E2 (by rw [plL_len]; have := HW.out.tot; show total ws ≤ 1000000000000000; omega))
  have hll : L.length ≤ total ws := by have h1 := HPI.out.len HW.out; have h2 := HPI.out.lt; omega
  have HLN : Hid (L.length ≤ 60) := Lib.hid (by have := HW.out.tot; omega)
  have O3 := Lib.hid ((O2.out.below b3).rr EI (by rw [List.length_map]; have := HLN.out; show L.length ≤ 1000000000000000; omega))
  have hhl := headsL_len HW.out
  have H3 := Lib.hid (hhv.rr EI (by show (headsL ws).length ≤ 1000000000000000; omega))
  have D3 := Lib.hid (D2.out.trans (b3.mono D2.out.size))
  obtain ⟨Ah, ch, rfl, -⟩ := hhv.form
  have HRB : Hid ((∀ b, (Value.slice Ap (total ws) cp).ownBlock = some b → w.heap.size + 3 ≤ b) ∧ (∀ b, (Value.slice Ao L.length co).ownBlock = some b → w.heap.size + 3 ≤ b) ∧ (∀ b, (Value.slice Ah (headsL ws).length ch).ownBlock = some b → w.heap.size + 3 ≤ b)) := Lib.hid ⟨fun b hb => by have := (P1.out.lt b hb).1; have := S0.out.siz; omega, fun b hb => by have := (O2.out.lt b hb).1; have := S1.out.siz; omega, fun b hb => by have := (hhv.lt b hb).1; have := S2.out.siz; omega⟩
  obtain ⟨nh, hnh⟩ : ∃ nh, (headsL ws).length = nh := ⟨_, rfl⟩
  have HNH := Lib.hid hnh
  rw [hnh] at H3 HRB hhl ⊢
  have hh0 : (nh : Int) ≤ 16 := by omega
  have hsz := S3.out.siz
  have G0 : Hid (G3 (w.heap.size + 1 + 1) w3.heap.size (.slice none 0 0) (.slice none 0 0) (.slice none 0 0) [] [] [] w3) := Lib.hid (by
    have cl : ∀ j, j < 3 → w3.cell? ⟨w.heap.size + 1 + 1, j, none⟩ = some (.slice none 0 0) := fun j hj => (D3.out.cell (p := ⟨w.heap.size + 1 + 1, j, none⟩) (by have := S0.out.siz; show w.heap.size + 1 + 1 < _; omega)).trans (B0.out.1 j hj)
    have fl : ∀ j, w3.frozen? ⟨w.heap.size + 1 + 1, j, none⟩ = false := fun j => (D3.out.frozen (p := ⟨w.heap.size + 1 + 1, j, none⟩) (by have := S0.out.siz; show w.heap.size + 1 + 1 < _; omega)).trans (B0.out.2 j)
    exact ⟨cl 0 (by decide), cl 1 (by decide), cl 2 (by decide), fl 0, fl 1, fl 2, OwnG.nil _ _ _ _ _, OwnG.nil _ _ _ _ _, OwnG.nil _ _ _ _ _, (fun b e => by cases e), (fun b e => by cases e), (fun b e => by cases e), by omega⟩)
  clear hhv b3 hnh x0 P1 P2 O2 D1 D2 S1 S2 hll hsz
  go_wp2_with fail
  go_loopw [9] (fun u wr => ∃ k : Nat, u = .int .i64 k ∧ k ≤ nh ∧ (∃ u1, G3 (w.heap.size + 1 + 1) w3.heap.size u1 (.slice none 0 0) (.slice none 0 0) (((headsN ws).take k).map (sgH (endE ws p.o.id))) [] [] wr) ∧ SgW w (.slice A ws.length c) wr ∧ GrownL [w.heap.size + 1 + 1] w3 wr) (fun u _ => nh - (intOf u).toNat)
  case atStart => exact ⟨0, rfl, by omega, ⟨_, G0.out⟩, S3.out, GrownL.refl _ _⟩
  case round =>
    obtain ⟨k, rfl, hk, ⟨u1, hG⟩, hS, hgr⟩ := hrel
    have HG := Lib.hid hG
    have SS := Lib.hid hS
    have HGR := Lib.hid hgr
    obtain ⟨A1, c1, rfl, -⟩ := hG.o1.form
    clear hG hS hgr G0
    by_cases hkl : k < nh
    · have hk0 : (k : Int) < (nh : Int) := by omega
      obtain ⟨x, hx⟩ : ∃ x, (headsN ws)[k]? = some x := ⟨_, List.getElem?_eq_getElem (by have := HNH.out; simp [headsL] at this; omega)⟩
      have hxl : (headsL ws)[k]? = some (x : Int) := by unfold headsL; rw [List.getElem?_map, hx]; rfl
      obtain ⟨y, hy⟩ : ∃ y, sgH (endE ws p.o.id) x = y := ⟨_, rfl⟩
      have HY := Lib.hid hy
      have HV : Hid (y = if (x : Int) = q0.c then 1 else 0) := Lib.hid (by rw [← hy]; exact sgH_at HW.out HP.out (HLL.out.trans HK0.out.1) HK0.out.2 (List.mem_of_getElem? hx))
      have HT : Hid (((headsN ws).take (k + 1)).map (sgH (endE ws p.o.id)) = ((headsN ws).take k).map (sgH (endE ws p.o.id)) ++ [y]) := Lib.hid (by rw [take_snoc_get hx, List.map_append, ← hy]; rfl)
      clear hy
      have hb2 : ∀ b, w.heap.size + 3 ≤ b → b ∉ [w.heap.size + 1 + 1] := fun b hb hm => by simp at hm; omega
      obtain ⟨bh, oh, rfl, hbh, q1⟩ := H3.out.int hxl
      have y1 : wr.cell? ⟨bh, oh + k, none⟩ = some (.int .i64 x) := HGR.out.cell q1 (hb2 _ (HRB.out.2.2 bh rfl))
      obtain ⟨bo, oo, rfl, hbo, q2⟩ := O3.out.int (k := 0) (x := (k0 : Int)) (by rw [HK0.out.1]; rfl)
      have y2 : wr.cell? ⟨bo, oo + 0, none⟩ = some (.int .i64 k0) := HGR.out.cell q2 (hb2 _ (HRB.out.2.1 bo rfl))
      obtain ⟨bp, op, rfl, hbp, q3, -⟩ := P3.out.span (outs_get HK0.out.2).2
      have y3 : wr.cell? ⟨bp, op + k0 * 2, none⟩ = some (.int .i64 q0.c) := HGR.out.cell q3 (hb2 _ (HRB.out.1 bp rfl))
      have hL0 : (0 : Int) < (L.length : Int) := by rw [HK0.out.1]; simp
      have hk1 : (k0 : Int) < (total ws : Int) := by have := lt_total HK0.out.2; omega
      obtain ⟨l1, hl1⟩ : ∃ l1, ((headsN ws).take k).map (sgH (endE ws p.o.id)) = l1 := ⟨_, rfl⟩
      have hl1b : l1.length ≤ 16 := by rw [← hl1, List.length_map, List.length_take]; omega
      rw [hl1] at HG HT
      obtain ⟨n1, hn1⟩ : ∃ n1, l1.length = n1 := ⟨_, rfl⟩
      have HN1 := Lib.hid hn1
      rw [Nat.add_zero] at y2
      have y4 := HG.out.c1
      have z4 := HG.out.f1
      have R1 : Hid (wr.ownsRow w3.heap.size 3 1 (.slice A1 l1.length c1) l1.length (l1.flatMap encI)) := Lib.hid (HG.out.o1)
      have hbs : w3.heap.size ≤ wr.heap.size := HGR.out.size
      rw [hn1] at R1 HG hl1b y4
      clear hx hxl q1 q2 q3 hb2 hl1 hn1
      have FIN : Hid (∀ (v4 : Value) (w4 : World), OwnG encI 1 3 w3.heap.size v4 (l1 ++ [y]) w4 → GrownL (Value.slice A1 n1 c1).ownBlock.toList wr w4 → (v4.ownBlock = (Value.slice A1 n1 c1).ownBlock ∨ ∃ n, v4.ownBlock = some n ∧ wr.heap.size ≤ n) →
          (∃ u1, G3 (w.heap.size + 1 + 1) w3.heap.size u1 (.slice none 0 0) (.slice none 0 0) (((headsN ws).take (k + 1)).map (sgH (endE ws p.o.id))) [] [] (w4.setCell ⟨w.heap.size + 1 + 1, 0, none⟩ v4)) ∧ SgW w (.slice A ws.length c) (w4.setCell ⟨w.heap.size + 1 + 1, 0, none⟩ v4) ∧ GrownL [w.heap.size + 1 + 1] w3 (w4.setCell ⟨w.heap.size + 1 + 1, 0, none⟩ v4) ∧ w4.cell? ⟨w.heap.size + 1 + 1, 0, none⟩ = some (.slice A1 n1 c1) ∧ w4.frozen? ⟨w.heap.size + 1 + 1, 0, none⟩ = false) := Lib.hid (fun v4 w4 ho hg ha => by
        have hlt := fun b (hb : b ∈ (Value.slice A1 n1 c1).ownBlock.toList) => (HG.out.o1.lt b (by simpa using hb))
        have hgb := HG.out.gb
        have hn4 : w.heap.size + 1 + 1 ∉ (Value.slice A1 n1 c1).ownBlock.toList := fun hm => by have := (hlt _ hm).1; omega
        refine ⟨⟨v4, by rw [HT.out]; exact HG.out.app1 hg ho ha⟩, (SS.out.grown hg (fun b hb => by have := (hlt b hb).1; omega)).set (by decide) _, ?_, hg.cell HG.out.c1 hn4, (World.frozen?_of_block (a := ⟨w.heap.size + 1 + 1, 0, none⟩) (hg.block _ HG.out.lt hn4)).trans HG.out.f1⟩
        exact HGR.out.newer ((hg.mono (bs' := (w.heap.size + 1 + 1) :: (Value.slice A1 n1 c1).ownBlock.toList) (by simp +contextual)).trans (GrownL.set _ _ _ (by simp))) (fun b hb => (hlt b hb).1))
      by_cases hxq : (x : Int) = q0.c
      · have HY1 : Hid (y = 1) := Lib.hid (by rw [HV.out, if_pos hxq])
        have hbq : ((x : Int) == (q0.c : Int)) = true := by rw [beq_iff_eq]; exact hxq
        go_wp2_with fail
        go_quiet (fail)
        go_wp2_with (at_builtin; refine wpList_append_own_at _ rfl _ _ 25 rfl w3.heap.size 3 i0 (.int .i64 0) 1 8 Try.underlying25 hz0 hj0 hj1 hj2 rfl (by decide) _ n1 _ rfl (R1.out.alloc _) ⟨wr.heap.size, 0, none⟩ 1 1 [.int .i64 1] rfl rfl (fun i u hi => one_news wr (.int .i64 1) 3 i u hi) (fun u hu => one_one 1 u hu) ?c3 ?c4 ?c5 ?_)
        case c3 => unfold maxLen; omega
        case c4 => omega
        case c5 => first | (simp <;> omega) | omega
        intro v4 w4 hown4 hgrow4 _ hat4
        have O4 : Hid (OwnG encI 1 3 w3.heap.size v4 (l1 ++ [y]) w4) := Lib.hid (by unfold OwnG; rw [List.flatMap_append, List.length_append, HN1.out, HY1.out]; exact hown4)
        obtain ⟨A4, c4, rfl, -⟩ := O4.out.form
        obtain ⟨n4, hn4⟩ : ∃ n, (l1 ++ [y]).length = n := ⟨_, rfl⟩
        rw [hn4] at O4 hat4 ⊢
        obtain ⟨f1, f2, f3, f4, f5⟩ := FIN.out _ w4 O4.out ((GrownL.of_below ((below_drewN (Below.refl wr.heap.size wr) _).alloc (Nat.le_refl _) (.cells #[.int .i64 _] 3))).trans (GrownL.of_row hgrow4)) (hat4.imp (fun h => h) (fun h => ⟨_, h, by simp⟩))
        clear hn4
        have F := Lib.hid (And.intro f1 (And.intro f2 f3))
        clear f1 f2 f3 hown4 hgrow4 hat4
        go_wp2_with fail
        go_roundw
        case rel => exact ⟨k + 1, by go_num, by omega, F.out⟩
        case measure => show nh - ((k : Int) + 1).toNat < nh - (k : Int).toNat; omega
      · have HY1 : Hid (y = 0) := Lib.hid (by rw [HV.out, if_neg hxq])
        have hbq : ((x : Int) == (q0.c : Int)) = false := by rw [beq_eq_false_iff_ne]; exact hxq
        go_wp2_with fail
        go_quiet (fail)
        go_wp2_with (at_builtin; refine wpList_append_own_at _ rfl _ _ 25 rfl w3.heap.size 3 i0 (.int .i64 0) 1 8 Try.underlying25 hz0 hj0 hj1 hj2 rfl (by decide) _ n1 _ rfl (R1.out.alloc _) ⟨wr.heap.size, 0, none⟩ 1 1 [.int .i64 0] rfl rfl (fun i u hi => one_news wr (.int .i64 0) 3 i u hi) (fun u hu => one_one 0 u hu) ?c3 ?c4 ?c5 ?_)
        case c3 => unfold maxLen; omega
        case c4 => omega
        case c5 => first | (simp <;> omega) | omega
        intro v4 w4 hown4 hgrow4 _ hat4
        have O4 : Hid (OwnG encI 1 3 w3.heap.size v4 (l1 ++ [y]) w4) := Lib.hid (by unfold OwnG; rw [List.flatMap_append, List.length_append, HN1.out, HY1.out]; exact hown4)
        obtain ⟨A4, c4, rfl, -⟩ := O4.out.form
        obtain ⟨n4, hn4⟩ : ∃ n, (l1 ++ [y]).length = n := ⟨_, rfl⟩
        rw [hn4] at O4 hat4 ⊢
        obtain ⟨f1, f2, f3, f4, f5⟩ := FIN.out _ w4 O4.out ((GrownL.of_below ((below_drewN (Below.refl wr.heap.size wr) _).alloc (Nat.le_refl _) (.cells #[.int .i64 _] 3))).trans (GrownL.of_row hgrow4)) (hat4.imp (fun h => h) (fun h => ⟨_, h, by simp⟩))
        clear hn4
        have F := Lib.hid (And.intro f1 (And.intro f2 f3))
        clear f1 f2 f3 hown4 hgrow4 hat4
        go_wp2_with fail
        go_roundw
        case rel => exact ⟨k + 1, by go_num, by omega, F.out⟩
        case measure => show nh - ((k : Int) + 1).toNat < nh - (k : Int).toNat; omega
    · have hk0 : (nh : Int) ≤ (k : Int) := by omega
      obtain rfl : k = nh := by omega
      have HE : Hid (((headsN ws).take k).map (sgH (endE ws p.o.id)) = sigH ws p.o.id) := Lib.hid (by rw [List.take_of_length_le (by have := HNH.out; simp [headsL] at this; omega)]; rfl)
      rw [HE.out] at HG
      obtain ⟨m1, hm1⟩ : ∃ m, (sigH ws p.o.id).length = m := ⟨_, rfl⟩
      rw [hm1] at HG
      obtain ⟨U1, hU1⟩ : ∃ U, Value.slice A1 m1 c1 = U := ⟨_, rfl⟩
      have HU1 := Lib.hid hU1
      rw [hU1] at HG
      clear hm1 hU1 hk hk0 hkl HE
      go_wp2_with fail
      go_loopw [11] (fun u wq => ∃ (n : Nat) (u2 u3 : Value), u = .int .i64 n ∧ n ≤ total ws ∧ G3 (w.heap.size + 1 + 1) w3.heap.size U1 u2 u3 (sigH ws p.o.id) (((allP ws).take n).map (sgO (endE ws p.o.id))) (((allP ws).take n).map (sgR (endE ws p.o.id))) wq ∧ SgW w (.slice A ws.length c) wq ∧ GrownL [w.heap.size + 1 + 1] w3 wq) (fun u _ => total ws - (intOf u).toNat)
      case atStart => exact ⟨0, _, _, rfl, by omega, HG.out, SS.out, HGR.out⟩
      case round =>
        obtain ⟨n, u2, u3, rfl, hn, hG, hS, hgr⟩ := hrel
        obtain ⟨wo, rfl⟩ : ∃ wo, wo = wr := ⟨_, rfl⟩
        have HG := Lib.hid hG
        have SS := Lib.hid hS
        have HGR := Lib.hid hgr
        have ht60 := HW.out.tot
        clear hG hS hgr
        by_cases hnl : n < total ws
        · have hn0 : (n : Int) < (total ws : Int) := by omega
          obtain ⟨q, hq⟩ := at_total hnl
          have HQ := Lib.hid hq
          clear hq
          go_wp2_with fail
          go_loopw [12, 13] (fun a u wi => ∃ j : Nat, u = .int .i64 j ∧ j ≤ L.length ∧ a = .bool (ahB ws (L.take j) q) ∧ Below wo.heap.size wo wi) (fun _ u _ => L.length - (intOf u).toNat)
          case atStart => exact ⟨0, rfl, by omega, rfl, Below.refl _ _⟩
          case round =>
            obtain ⟨j, rfl, hj, rfl, hb⟩ := hrel
            have HB := Lib.hid hb
            clear hb
            have hL60 := HLN.out
            by_cases hjl : j < L.length
            · have hj0 : (j : Int) < (L.length : Int) := by omega
              obtain ⟨m, hm⟩ : ∃ m, L[j]? = some m := ⟨_, List.getElem?_eq_getElem hjl⟩
              have hmt : m < total ws := HPI.out.mem m (List.mem_of_getElem? hm)
              obtain ⟨qm, hqm⟩ := at_total hmt
              have HAS := Lib.hid (ahB_snoc (q := q) hm hqm)
              have hb2 : ∀ b, w.heap.size + 3 ≤ b → b ∉ [w.heap.size + 1 + 1] := fun b hb hm => by simp at hm; omega
              obtain ⟨bo, oo, rfl, hbo, q2⟩ := O3.out.int (k := j) (x := (m : Int)) (by rw [List.getElem?_map, hm]; rfl)
              have y2 : wr.cell? ⟨bo, oo + j, none⟩ = some (.int .i64 m) := BelS.c HB.out (HGR.out.cell q2 (hb2 _ (HRB.out.2.1 bo rfl)))
              obtain ⟨bp, op, e1, hbp, q3, q4⟩ := P3.out.span (outs_get hqm).2
              subst e1
              have y3 : wr.cell? ⟨bp, op + m * 2, none⟩ = some (.int .i64 qm.c) := BelS.c HB.out (HGR.out.cell q3 (hb2 _ (HRB.out.1 bp rfl)))
              have y4 : wr.cell? ⟨bp, op + m * 2 + 1, none⟩ = some (.int .i64 qm.n) := BelS.c HB.out (HGR.out.cell q4 (hb2 _ (HRB.out.1 bp rfl)))
              obtain ⟨bp', op', e1, -, q5, q6⟩ := P3.out.span (outs_get HQ.out).2
              obtain ⟨rfl, rfl⟩ : bp = bp' ∧ op = op' := by simpa using e1
              have y5 : wr.cell? ⟨bp, op + n * 2, none⟩ = some (.int .i64 q.c) := BelS.c HB.out (HGR.out.cell q5 (hb2 _ (HRB.out.1 bp rfl)))
              have y6 : wr.cell? ⟨bp, op + n * 2 + 1, none⟩ = some (.int .i64 q.n) := BelS.c HB.out (HGR.out.cell q6 (hb2 _ (HRB.out.1 bp rfl)))
              have hm1 : (m : Int) < (total ws : Int) := by omega
              obtain ⟨b, hb⟩ : ∃ b, ahB ws (L.take j) q = b := ⟨_, rfl⟩
              rw [hb] at HAS ⊢
              clear hm hmt hqm hb2 q2 q3 q4 q5 q6 e1 hb
              cases b
              · by_cases hc : (qm.c : Int) = q.c
                · have hcb : ((qm.c : Int) == (q.c : Int)) = true := by rw [beq_iff_eq]; exact hc
                  by_cases hlt : (q.n : Int) < qm.n
                  · have HV : Hid (ahB ws (L.take (j + 1)) q = true) := Lib.hid (by rw [HAS.out, decide_eq_true (by omega), decide_eq_true (by omega)]; rfl)
                    go_wp2_with fail
                    go_quiet (fail)
                    go_wp2_with fail
                    go_roundw
                    case rel => exact ⟨j + 1, by go_num, by omega, by rw [HV.out]; try (congr 1; exact decide_eq_false (by omega)), HB.out.trans ((below_drewN (Below.refl _ _) _).mono HB.out.size)⟩
                    case measure => show L.length - ((j : Int) + 1).toNat < L.length - (j : Int).toNat; omega
                  · have HV : Hid (ahB ws (L.take (j + 1)) q = false) := Lib.hid (by rw [HAS.out, decide_eq_false (p := q.n < qm.n) (by omega)]; simp)
                    have hlb : decide ((q.n : Int) < (qm.n : Int)) = false := decide_eq_false hlt
                    go_wp2_with fail
                    go_quiet (fail)
                    go_wp2_with fail
                    go_roundw
                    case rel => exact ⟨j + 1, by go_num, by omega, by rw [HV.out]; try (congr 1; exact decide_eq_false (by omega)), HB.out.trans ((below_drewN (Below.refl _ _) _).mono HB.out.size)⟩
                    case measure => show L.length - ((j : Int) + 1).toNat < L.length - (j : Int).toNat; omega
                · have hcb : ((qm.c : Int) == (q.c : Int)) = false := by rw [beq_eq_false_iff_ne]; exact hc
                  have HV : Hid (ahB ws (L.take (j + 1)) q = false) := Lib.hid (by rw [HAS.out, decide_eq_false (p := qm.c = q.c) (by omega)]; simp)
                  go_wp2_with fail
                  go_quiet (fail)
                  go_wp2_with fail
                  go_roundw
                  case rel => exact ⟨j + 1, by go_num, by omega, by rw [HV.out]; try (congr 1; exact decide_eq_false (by omega)), HB.out.trans ((below_drewN (Below.refl _ _) _).mono HB.out.size)⟩
                  case measure => show L.length - ((j : Int) + 1).toNat < L.length - (j : Int).toNat; omega
              · have HV : Hid (ahB ws (L.take (j + 1)) q = true) := Lib.hid (by rw [HAS.out]; rfl)
                go_wp2_with fail
                go_quiet (fail)
                go_wp2_with fail
                go_roundw
                case rel => exact ⟨j + 1, by go_num, by omega, by rw [HV.out]; try (congr 1; exact decide_eq_false (by omega)), HB.out.trans ((below_drewN (Below.refl _ _) _).mono HB.out.size)⟩
                case measure => show L.length - ((j : Int) + 1).toNat < L.length - (j : Int).toNat; omega
            · have hj0 : (L.length : Int) ≤ (j : Int) := by omega
              obtain rfl : j = L.length := by omega
              rw [List.take_of_length_le (Nat.le_refl _)]
              have hsg := sg_at HW.out HP.out HQ.out
              rw [HLL.out] at hsg
              obtain ⟨yo, hyo⟩ : ∃ y, sgO (endE ws p.o.id) q = y := ⟨_, rfl⟩
              obtain ⟨yr, hyr⟩ : ∃ y, sgR (endE ws p.o.id) q = y := ⟨_, rfl⟩
              have HTO : Hid (((allP ws).take (n + 1)).map (sgO (endE ws p.o.id)) = ((allP ws).take n).map (sgO (endE ws p.o.id)) ++ [yo]) := Lib.hid (by rw [take_snoc_get HQ.out, List.map_append, ← hyo]; rfl)
              have HTR : Hid (((allP ws).take (n + 1)).map (sgR (endE ws p.o.id)) = ((allP ws).take n).map (sgR (endE ws p.o.id)) ++ [yr]) := Lib.hid (by rw [take_snoc_get HQ.out, List.map_append, ← hyr]; rfl)
              rw [hyo, hyr] at hsg
              have HSG := Lib.hid hsg
              clear hsg hyo hyr
              have OW := Lib.hid ((O3.out.grown HGR.out (fun g hg hm => by have := HRB.out.2.1 g hg; simp at hm; omega)).up HB.out.size HB.out)
              have G1 := Lib.hid (HG.out.grown (bs := []) (GrownL.of_below HB.out) (by simp) (by simp))
              have S1 := Lib.hid (SS.out.below HB.out)
              have R1 := Lib.hid (HGR.out.trans (GrownL.of_below (bs := [w.heap.size + 1 + 1]) HB.out))
              obtain ⟨ah, hah⟩ : ∃ b, ahB ws L q = b := ⟨_, rfl⟩
              rw [hah] at HSG ⊢
              clear hah hj hj0 hjl
              go_wp2_with fail
              refine (rin_any _ _ (n : Int) _ OW.out (by rw [List.length_map]; omega)).mono ?_
              rintro e w5 ⟨rfl, b5⟩
              have G2 := Lib.hid (G1.out.grown (bs := []) (GrownL.of_below b5) (by simp) (by simp))
              have S2 := Lib.hid (S1.out.below b5)
              have R2 := Lib.hid (R1.out.trans (GrownL.of_below (bs := [w.heap.size + 1 + 1]) b5))
              have hmem : decide ((n : Int) ∈ L.map Int.ofNat) = decide (n ∈ L) := by
                refine decide_eq_decide.2 ⟨fun h => ?_, fun h => List.mem_map.2 ⟨n, h, rfl⟩⟩
                obtain ⟨k, hk, he⟩ := List.mem_map.1 h
                have : k = n := by have : (k : Int) = n := he; omega
                exact this ▸ hk
              rw [hmem]
              obtain ⟨it, hit⟩ : ∃ b, decide (n ∈ L) = b := ⟨_, rfl⟩
              have HIT := Lib.hid hit
              rw [hit]
              clear hmem hit b5 OW G1 S1 R1
              obtain ⟨A2, c2, rfl, -⟩ := G2.out.o2.form
              obtain ⟨A3, c3, rfl, -⟩ := G2.out.o3.form
              obtain ⟨l2, hl2⟩ : ∃ l, ((allP ws).take n).map (sgO (endE ws p.o.id)) = l := ⟨_, rfl⟩
              obtain ⟨l3, hl3⟩ : ∃ l, ((allP ws).take n).map (sgR (endE ws p.o.id)) = l := ⟨_, rfl⟩
              have hb2 : l2.length ≤ 60 := by rw [← hl2, List.length_map, List.length_take]; omega
              have hb3 : l3.length ≤ 60 := by rw [← hl3, List.length_map, List.length_take]; omega
              rw [hl2, hl3] at G2
              rw [hl2] at HTO
              rw [hl3] at HTR
              obtain ⟨n2, hn2⟩ : ∃ n, l2.length = n := ⟨_, rfl⟩
              obtain ⟨n3, hn3⟩ : ∃ n, l3.length = n := ⟨_, rfl⟩
              have HN2 := Lib.hid hn2
              have HN3 := Lib.hid hn3
              have RA : Hid (w5.ownsRow w3.heap.size 3 1 (.slice A2 l2.length c2) l2.length (l2.flatMap encI)) := Lib.hid G2.out.o2
              have hbs : w3.heap.size ≤ w5.heap.size := R2.out.size
              have x2 := G2.out.c2
              have z2 := G2.out.f2
              rw [hn2, hn3] at G2
              rw [hn2] at RA hb2 x2
              rw [hn3] at hb3
              clear hl2 hl3 hn2 hn3
              cases ah <;> cases it
              all_goals
                have e := HSG.out
                have hi := HIT.out
                simp at hi
                simp [hi] at e
                obtain ⟨rfl, rfl⟩ := e
                clear hi
                go_wp2_with (at_builtin; refine wpList_append_own_at _ rfl _ _ 25 rfl w3.heap.size 3 i0 (.int .i64 0) 1 8 Try.underlying25 hz0 hj0 hj1 hj2 rfl (by decide) _ n2 _ rfl (RA.out.alloc _) ⟨w5.heap.size, 0, none⟩ 1 1 [.int .i64 _] rfl rfl (fun i u hi => one_news w5 (.int .i64 _) 3 i u hi) (fun u hu => one_one _ u hu) ?c3a ?c4a ?c5a ?_)
                case c3a => unfold maxLen; omega
                case c4a => omega
                case c5a => first | (simp <;> omega) | omega
                intro v6 w6 hown6 hgrow6 _ hat6
                have O6 := Lib.hid (own_snoc hown6 HN2.out)
                obtain ⟨A6, c6, rfl, -⟩ := O6.out.form
                obtain ⟨n6, hn6⟩ : ∃ n, n2 + 1 = n := ⟨_, rfl⟩
                rw [List.length_append, HN2.out, List.length_singleton, hn6] at O6 hat6 ⊢
                have g6 := ((GrownL.of_below ((Below.refl w5.heap.size w5).alloc (Nat.le_refl _) (.cells #[.int .i64 _] 3))).trans (GrownL.of_row hgrow6))
                obtain ⟨f1, f2, f3, f4, f5⟩ := sgw2 G2.out S2.out R2.out O6.out g6 (hat6.imp (fun h => h) (fun h => ⟨_, h, by simp⟩))
                have F := Lib.hid (And.intro f1 (And.intro f2 f3))
                have RB : Hid ((w6.setCell ⟨w.heap.size + 1 + 1, 1, none⟩ (.slice A6 n6 c6)).ownsRow w3.heap.size 3 1 (.slice A3 n3 c3) n3 (l3.flatMap encI)) := Lib.hid (by have := f1.o3; unfold OwnG at this; rwa [HN3.out] at this)
                have x3 := f1.c3
                have z3 := f1.f3
                have hbs6 : w3.heap.size ≤ w6.heap.size := by have := g6.size; omega
                have hbs7 : w3.heap.size ≤ (w6.setCell ⟨w.heap.size + 1 + 1, 1, none⟩ (.slice A6 n6 c6)).heap.size := by simpa using hbs6
                clear f1 f2 f3 hown6 hgrow6 hat6 hn6 g6 x2 z2
                go_wp2_with (at_builtin; refine wpList_append_own_at _ rfl _ _ 25 rfl w3.heap.size 3 i0 (.int .i64 0) 1 8 Try.underlying25 hz0 hj0 hj1 hj2 rfl (by decide) _ n3 _ rfl (RB.out.alloc _) ⟨w6.heap.size, 0, none⟩ 1 1 [.int .i64 _] rfl rfl (fun i u hi => new_set w6 _ _ _ 3 i u hi) (fun u hu => one_one _ u hu) ?c3b ?c4b ?c5b ?_)
                case c3b => unfold maxLen; omega
                case c4b => omega
                case c5b => first | (simp <;> omega) | omega
                intro v7 w7 hown7 hgrow7 _ hat7
                have O7 := Lib.hid (own_snoc hown7 HN3.out)
                obtain ⟨A7, c7, rfl, -⟩ := O7.out.form
                obtain ⟨n7, hn7⟩ : ∃ n, n3 + 1 = n := ⟨_, rfl⟩
                rw [List.length_append, HN3.out, List.length_singleton, hn7] at O7 hat7 ⊢
                obtain ⟨f1, f2, f3, f6, f7⟩ := sgw3 F.out.1 F.out.2.1 F.out.2.2 O7.out ((GrownL.of_below ((Below.refl _ _).alloc (Nat.le_refl _) (.cells #[.int .i64 _] 3))).trans (GrownL.of_row hgrow7)) (hat7.imp (fun h => h) (fun h => ⟨_, h, by simp⟩))
                have FF := Lib.hid (And.intro f1 (And.intro f2 f3))
                clear f1 f2 f3 hown7 hgrow7 hat7 hn7 x3 z3 f4 f5 hbs6 hbs7
                go_wp2_with fail
                go_roundw
                case rel => exact ⟨n + 1, _, _, by go_num, by omega, by rw [HTO.out, HTR.out]; exact FF.out.1, FF.out.2.1, FF.out.2.2⟩
                case measure => show total ws - ((n : Int) + 1).toNat < total ws - (n : Int).toNat; omega
        · have hn0 : (total ws : Int) ≤ (n : Int) := by omega
          obtain rfl : n = total ws := by omega
          have HTO : Hid (((allP ws).take (total ws)).map (sgO (endE ws p.o.id)) = sigO ws p.o.id) := Lib.hid (by rw [List.take_of_length_le (by rw [allP_len]; exact Nat.le_refl _)]; rfl)
          have HTR : Hid (((allP ws).take (total ws)).map (sgR (endE ws p.o.id)) = sigR ws p.o.id) := Lib.hid (by rw [List.take_of_length_le (by rw [allP_len]; exact Nat.le_refl _)]; rfl)
          rw [HTO.out, HTR.out] at HG
          obtain ⟨A2, c2, rfl, -⟩ := HG.out.o2.form
          obtain ⟨A3, c3, rfl, -⟩ := HG.out.o3.form
          obtain ⟨n2, hn2⟩ : ∃ n, (sigO ws p.o.id).length = n := ⟨_, rfl⟩
          obtain ⟨n3, hn3⟩ : ∃ n, (sigR ws p.o.id).length = n := ⟨_, rfl⟩
          rw [hn2, hn3, ← HU1.out] at HG
          have x1 := HG.out.c1
          have x2 := HG.out.c2
          have x3 := HG.out.c3
          have x4 := SS.out.e3
          have r0 := SS.out.r0
          have r1 := SS.out.r1
          have r2 := SS.out.r2
          have r3 := SS.out.r3
          have z0 := SS.out.z 0
          have z1 := SS.out.z 1
          have z2 := SS.out.z 2
          have z3 := SS.out.z 3
          clear hn2 hn3 hn hn0 hnl HTO HTR
          go_wp2_with fail
          obtain ⟨X, hX⟩ : ∃ X, (((wo.setCell ⟨w.heap.size + 1, 0, none⟩ (.slice A1 m1 c1)).setCell ⟨w.heap.size + 1, 1, none⟩ (.slice A2 n2 c2)).setCell ⟨w.heap.size + 1, 2, none⟩ (.slice A3 n3 c3)).setCell ⟨w.heap.size + 1, 3, none⟩ (.int .i64 0) = X := ⟨_, rfl⟩
          obtain ⟨p0, p1, p2, p3, gx⟩ := set4 r0 r1 r2 r3 _ _ _ _ hX
          have HX := Lib.hid hX
          clear hX
          rw [HX.out]
          refine bodyPost_ret (v := .agg #[.slice A1 m1 c1, .slice A2 n2 c2, .slice A3 n3 c3, .int .i64 0]) (by simp [results, Try.results120, go_sem, p0, p1, p2, p3]) rfl ?_
          have hs3 := HGR.out.size
          have s3 := S3.out.siz
          have ow : ∀ u l, OwnG encI 1 3 w3.heap.size u l wo → OwnG encI 1 3 w.heap.size u l X := fun u l h => (h.grown gx (fun b hb hm => by have := (h.lt b hb).1; simp at hm; omega)).low (by omega)
          exact ⟨_, _, _, rfl, ow _ _ HG.out.o1, ow _ _ HG.out.o2, ow _ _ HG.out.o3, SS.out.bel.trans (gx.below (fun b hb => by simp at hb; omega) SS.out.bel.size)⟩
end Go.Proofs.Ytkoacclbempmdaa

/- Plain mathematics: more by its signs gives an outlet no less. -/
namespace Go.Proofs.Ytkoacclbempmdaa
open Go.RowKit

/-- If a carrier of a path is fed, its feeder is on the path. -/
theorem PathIs.feeder {ws : Wk} {i : Nat} {l : List Nat} (h : PathIs ws i l) : ∀ k ∈ l, ∀ q, (allP ws)[k]? = some q → ∀ j : Nat, FstIs (fun o : Ou => o.into) (outs ws) q.c j → j ∈ l := by
  induction h with
  | head hp hf =>
    intro k hk q hq j hj
    rw [List.mem_singleton] at hk
    subst hk
    rw [hp] at hq
    cases hq
    have := hf.unique hj
    omega
  | @step i j0 p0 l hp hf h ih =>
    intro k hk q hq j hj
    rcases List.mem_append.1 hk with hk | hk
    · exact List.mem_append.2 (.inl (ih k hk q hq j hj))
    · rw [List.mem_singleton] at hk
      subst hk
      rw [hp] at hq
      cases hq
      have := hf.unique hj
      obtain rfl : j0 = j := by omega
      exact List.mem_append.2 (.inl h.self_mem)
/-- The outlet of a path on a carrier. -/
theorem endE_pos {ws : Wk} (hw : WOk ws) {i : Nat} {p : Pl} (hp : (allP ws)[i]? = some p) {c : Nat} (hc : 0 < endE ws p.o.id c) : ∃ (k : Nat) (q : Pl), k ∈ pathOf ws i ∧ (allP ws)[k]? = some q ∧ q.c = c ∧ endE ws p.o.id c = q.n + 1 := by
  by_cases h : ∃ (k : Nat) (q : Pl), k ∈ pathOf ws i ∧ (allP ws)[k]? = some q ∧ q.c = c
  · obtain ⟨k, q, hk, hq, rfl⟩ := h
    exact ⟨k, q, hk, hq, rfl, endE_at hw hp hk hq⟩
  · rw [endE_none hw hp (fun k hk q hq e => h ⟨k, q, hk, hq, e⟩)] at hc
    omega
/-- What leads into a carrier of a path is on the path. -/
theorem endE_into {ws : Wk} (hw : WOk ws) {i m : Nat} {p q : Pl} (hp : (allP ws)[i]? = some p) (hq : (allP ws)[m]? = some q) {c : Nat} (hc : 0 < endE ws p.o.id c) (hi : q.o.into = c) : endE ws p.o.id q.c = q.n + 1 := by
  obtain ⟨k, r, hk, hr, rfl, -⟩ := endE_pos hw hp hc
  have hP := pathOf_is hw (lt_total hp)
  have ho := (outs_get hq).1
  obtain ⟨x, hx⟩ := FstIs.exists_ (fun o : Ou => o.into) (outs ws) r.c
  have hx' := hx
  rcases hx with ⟨j, o, hj, he, -, rfl⟩ | ⟨hn, -⟩
  · have hjm : j = m := by
      obtain ⟨qj, hqj⟩ := at_total (ws := ws) (n := j) (by have := (List.getElem?_eq_some_iff.1 hj).1; rw [outs_len] at this; exact this)
      have hoj := (outs_get hqj).1
      rw [hj] at hoj
      cases hoj
      have he : qj.o.into = r.c := he
      rcases Nat.lt_trichotomy j m with h | h | h
      · exact absurd (he.trans hi.symm) ((hw.one j m qj q hqj hq h).2 (by omega))
      · exact h
      · exact absurd (hi.trans he.symm) ((hw.one m j q qj hq hqj h).2 (by omega))
    subst hjm
    exact endE_at hw hp (hP.feeder k hk r hr j hx') hq
  · exact absurd hi (hn m q.o ho)

/-- What has a sign is no less in a second water, or no more. -/
structure UpS (ws : Wk) (e : Nat → Nat) (s t : Wa) : Prop where
  r : ∀ (k c : Nat) (x y : Int), (headsN ws)[k]? = some c → s.river[k]? = some x → t.river[k]? = some y → 0 < e c → x ≤ y
  b : ∀ (i : Nat) (p : Pl) (x y : Int), (allP ws)[i]? = some p → s.boards[i]? = some x → t.boards[i]? = some y → (p.n + 1 = e p.c → x ≤ y) ∧ (p.n + 1 < e p.c → y ≤ x)
  k : ∀ (i : Nat) (p : Pl) (x y : Int), (allP ws)[i]? = some p → s.leaks[i]? = some x → t.leaks[i]? = some y → (p.n + 1 = e p.c → x ≤ y) ∧ (p.n + 1 < e p.c → y ≤ x)
  l : ∀ (i : Nat) (p : Pl) (x y : Int), (allP ws)[i]? = some p → s.losses[i]? = some x → t.losses[i]? = some y → p.n < e p.c → y ≤ x

theorem ps_mono {o : Ou} (h : OuOk o) {a b : Nat} {x y : Int} (hx : o.ps[a]? = some x) (hy : o.ps[b]? = some y) (hab : a ≤ b) : x ≤ y := by
  rcases Nat.lt_or_ge a b with h' | h'
  · exact Int.le_of_lt (h.pm a b x y hx hy h')
  · obtain rfl : a = b := by omega
    rw [hx] at hy
    cases hy
    exact Int.le_refl _

section
variable {ws : Wk} {e : Nat → Nat} {s t : Wa} {n : Nat} {q : Pl}
theorem UpS.loss (hw : WOk ws) (hs : WaOk ws s) (ht : WaOk ws t) (hu : UpS ws e s t) (hq : (allP ws)[n]? = some q) (he : q.n < e q.c) : t.losses.getD q.at_ 0 ≤ s.losses.getD q.at_ 0 := by
  obtain ⟨b1, k1, l1, c1, hb1, hk1, hl1, hc1, -, -, -, -, -, -, -, e1, f1⟩ := hs.at_ hw hq
  obtain ⟨b2, k2, l2, c2, hb2, hk2, hl2, hc2, -, -, -, -, -, -, -, e2, f2⟩ := ht.at_ hw hq
  rw [f1, f2]
  exact hu.l n q l1 l2 hq hl1 hl2 he
theorem UpS.cap_up (hw : WOk ws) (hs : WaOk ws s) (ht : WaOk ws t) (hu : UpS ws e s t) (hq : (allP ws)[n]? = some q) (he : q.n + 1 = e q.c) : s.cap q ≤ t.cap q := by
  obtain ⟨b1, k1, l1, c1, hb1, hk1, hl1, hc1, -, -, -, -, -, -, -, e1, f1⟩ := hs.at_ hw hq
  obtain ⟨b2, k2, l2, c2, hb2, hk2, hl2, hc2, -, -, -, -, -, -, -, e2, f2⟩ := ht.at_ hw hq
  have h1 := (hu.b n q b1 b2 hq hb1 hb2).1 he
  have h2 := (hu.k n q k1 k2 hq hk1 hk2).1 he
  have h3 := ps_mono (hw.ou hq) hc1 hc2 (by omega)
  omega
theorem UpS.cap_down (hw : WOk ws) (hs : WaOk ws s) (ht : WaOk ws t) (hu : UpS ws e s t) (hq : (allP ws)[n]? = some q) (he : q.n + 1 < e q.c) : t.cap q ≤ s.cap q := by
  obtain ⟨b1, k1, l1, c1, hb1, hk1, hl1, hc1, -, -, -, -, -, -, -, e1, f1⟩ := hs.at_ hw hq
  obtain ⟨b2, k2, l2, c2, hb2, hk2, hl2, hc2, -, -, -, -, -, -, -, e2, f2⟩ := ht.at_ hw hq
  have h1 := (hu.b n q b1 b2 hq hb1 hb2).2 he
  have h2 := (hu.k n q k1 k2 hq hk1 hk2).2 he
  have h3 := ps_mono (hw.ou hq) hc2 hc1 (by omega)
  omega
theorem thr_up {f g : FS} (h : f.t q.c ≤ g.t q.c) (hl : t.losses.getD q.at_ 0 ≤ s.losses.getD q.at_ 0) (hc : s.cap q ≤ t.cap q) : thrS s f q ≤ thrS t g q := by
  unfold thrS lostS
  omega
theorem rest_up {f g : FS} (h : f.t q.c ≤ g.t q.c) (hl : t.losses.getD q.at_ 0 ≤ s.losses.getD q.at_ 0) (hc : t.cap q ≤ s.cap q) : f.t q.c - lostS s f q - thrS s f q ≤ g.t q.c - lostS t g q - thrS t g q := by
  unfold thrS lostS
  omega
end
theorem startT_up {ws : Wk} {e : Nat → Nat} {s t : Wa} (hs : WaOk ws s) (ht : WaOk ws t) (hu : UpS ws e s t) {c : Nat} (hc : 0 < e c) : startT ws s c ≤ startT ws t c := by
  unfold startT
  cases hx : (headsN ws).idxOf? c with
  | none => exact Int.le_refl _
  | some k =>
    have hk : (headsN ws)[k]? = some c := by
      rw [List.idxOf?_eq_some_iff] at hx
      obtain ⟨h1, h2, -⟩ := hx
      rw [List.getElem?_eq_getElem h1, h2]
    have hkl := (List.getElem?_eq_some_iff.1 hk).1
    have h1 : s.river[k]? = some (s.river.getD k 0) := by
      rw [List.getD_eq_getElem?_getD, List.getElem?_eq_getElem (by rw [hs.r]; exact hkl)]
      rfl
    have h2 : t.river[k]? = some (t.river.getD k 0) := by
      rw [List.getD_eq_getElem?_getD, List.getElem?_eq_getElem (by rw [ht.r]; exact hkl)]
      rfl
    exact hu.r k c _ _ hk h1 h2 hc
theorem flow_up {ws : Wk} (hw : WOk ws) {s t : Wa} (hs : WaOk ws s) (ht : WaOk ws t) {i : Nat} {p : Pl} (hp : (allP ws)[i]? = some p) {e : Nat → Nat} (he : e = endE ws p.o.id) (hu : UpS ws e s t) :
    ∀ n, n ≤ total ws → (∀ c, 0 < e c → n < pre ws c + e c → (flowTo ws s n).t c ≤ (flowTo ws t n).t c) ∧ ∀ (j : Nat) (q : Pl), j < n → (allP ws)[j]? = some q → q.n + 1 = e q.c → (flowTo ws s n).thr.getD j 0 ≤ (flowTo ws t n).thr.getD j 0
  | 0, _ => ⟨fun c hc _ => startT_up hs ht hu hc, fun j q h => by omega⟩
  | n + 1, hn => by
    obtain ⟨ih1, ih2⟩ := flow_up hw hs ht hp he hu n (by omega)
    obtain ⟨q, hq⟩ := at_total (ws := ws) (n := n) (by omega)
    obtain ⟨-, os, h1, h2, h3⟩ := allP_inv hq
    have hB : q.n + 1 = e q.c → thrS s (flowTo ws s n) q ≤ thrS t (flowTo ws t n) q := fun hx =>
      thr_up (ih1 q.c (by omega) (by omega)) (hu.loss hw hs ht hq (by omega)) (hu.cap_up hw hs ht hq hx)
    rw [flowTo_succ s hq, flowTo_succ t hq]
    refine ⟨fun c hc hlt => ?_, fun j r hj hr hx => ?_⟩
    · show (if (c : Int) = q.o.into then thrS s (flowTo ws s n) q else if c = q.c then (flowTo ws s n).t q.c - lostS s (flowTo ws s n) q - thrS s (flowTo ws s n) q else (flowTo ws s n).t c) ≤ (if (c : Int) = q.o.into then thrS t (flowTo ws t n) q else if c = q.c then (flowTo ws t n).t q.c - lostS t (flowTo ws t n) q - thrS t (flowTo ws t n) q else (flowTo ws t n).t c)
      by_cases hi : (c : Int) = q.o.into
      · rw [if_pos hi, if_pos hi]
        subst he
        exact hB (endE_into hw hp hq hc hi.symm).symm
      · rw [if_neg hi, if_neg hi]
        by_cases hcq : c = q.c
        · subst hcq
          rw [if_pos rfl, if_pos rfl]
          exact rest_up (ih1 q.c (by omega) (by omega)) (hu.loss hw hs ht hq (by omega)) (hu.cap_down hw hs ht hq (by omega))
        · rw [if_neg hcq, if_neg hcq]
          exact ih1 c hc (by omega)
    · show ((flowTo ws s n).thr ++ [thrS s (flowTo ws s n) q]).getD j 0 ≤ ((flowTo ws t n).thr ++ [thrS t (flowTo ws t n) q]).getD j 0
      have hl1 := thr_len ws s n (by omega)
      have hl2 := thr_len ws t n (by omega)
      rw [List.getD_eq_getElem?_getD, List.getD_eq_getElem?_getD]
      rcases Nat.lt_or_ge j n with h | h
      · rw [List.getElem?_append_left (by omega), List.getElem?_append_left (by omega)]
        have := ih2 j r h hr hx
        rwa [List.getD_eq_getElem?_getD, List.getD_eq_getElem?_getD] at this
      · obtain rfl : j = n := by omega
        rw [hq] at hr
        cases hr
        rw [List.getElem?_append_right (by omega), List.getElem?_append_right (by omega), hl1, hl2, Nat.sub_self]
        exact hB hx
/-- More by its signs gives an outlet no less. -/
theorem flow_mono {ws : Wk} (hw : WOk ws) {s t : Wa} (hs : WaOk ws s) (ht : WaOk ws t) {i : Nat} {p : Pl} (hp : (allP ws)[i]? = some p) (hu : UpS ws (endE ws p.o.id) s t) : (flowF ws s).thr.getD i 0 ≤ (flowF ws t).thr.getD i 0 :=
  (flow_up hw hs ht hp rfl hu (total ws) (Nat.le_refl _)).2 i p (lt_total hp) hp (endE_at hw hp (pathOf_is hw (lt_total hp)).self_mem hp).symm
end Go.Proofs.Ytkoacclbempmdaa

/- Contract of the law's given. -/
namespace Go.Proofs.Ytkoacclbempmdaa
open Go.RowKit

/-- A river whose numbers are turned where a list has 1, up to an index. -/
def givT (L r : List Int) (k : Int) : Nat → List Int
  | 0 => r
  | j + 1 => if L.getD j 0 = 1 then (givT L r k j).set j k else givT L r k j
theorem givT_len (L r : List Int) (k : Int) : ∀ j, (givT L r k j).length = r.length
  | 0 => rfl
  | j + 1 => by
    show (if L.getD j 0 = 1 then (givT L r k j).set j k else givT L r k j).length = _
    split
    · rw [List.length_set, givT_len L r k j]
    · exact givT_len L r k j
/-- What given keeps besides its list. -/
structure GvS (w : World) (g : Nat) (a b c d : Value) (W : World) : Prop where
  c0 : W.cell? ⟨w.heap.size, 0, none⟩ = some a
  c1 : W.cell? ⟨w.heap.size, 1, none⟩ = some b
  c2 : W.cell? ⟨w.heap.size, 2, none⟩ = some c
  c3 : W.cell? ⟨w.heap.size, 3, none⟩ = some d
  r : ∀ j, j < 4 → W.cell? ⟨w.heap.size + 1, j, none⟩ = some (.slice none 0 0)
  f : ∀ j, j < 4 → W.frozen? ⟨w.heap.size + 1, j, none⟩ = false
  bel : Below w.heap.size w W
  gl : w.heap.size + 2 ≤ g
theorem GvS.grown {w W W' : World} {g : Nat} {a b c d : Value} {bs : List Nat} (h : GvS w g a b c d W) (hg : GrownL bs W W') (hn : ∀ k ∈ bs, w.heap.size + 2 ≤ k) : GvS w g a b c d W' := by
  have n0 : w.heap.size ∉ bs := fun hm => by have := hn _ hm; omega
  have n1 : w.heap.size + 1 ∉ bs := fun hm => by have := hn _ hm; omega
  exact ⟨hg.cell h.c0 n0, hg.cell h.c1 n0, hg.cell h.c2 n0, hg.cell h.c3 n0, fun j hj => hg.cell (h.r j hj) n1, fun j hj => (World.frozen?_of_block (a := ⟨w.heap.size + 1, j, none⟩) (hg.block _ (World.block_lt_of_cell? _ _ (h.r j hj)) n1)).trans (h.f j hj), h.bel.trans (hg.below (fun k hk => by have := hn k hk; omega) h.bel.size), h.gl⟩

set_option maxHeartbeats 8000000 in
set_option maxRecDepth 1000000 in
theorem given_any (wv hv : Value) (s : Wa) (L : List Int) (k : Int) (w : World) (hs : RWa w.heap.size wv s w) (hh : RR encI w.heap.size hv L w) (hi : 0 < s.river.length) (hl : s.river.length ≤ 1000) (hL : L.length = s.river.length) :
    Calls Try.prog 39 #[wv, hv, .int .i64 k] w fun e w' => ∃ v, e = .returned v ∧ RWa w'.heap.size v ⟨givT L s.river k L.length, s.boards, s.leaks, s.losses⟩ w' ∧ Below w.heap.size w w' := by
  obtain ⟨Ah, ch, rfl⟩ := hh.slice
  obtain ⟨i0, hz0, hj0, hj1, hj2⟩ := info_parts infoInt
  obtain ⟨A1, c1, A2, c2, A3, c3, A4, c4, rfl⟩ := hs.form
  have HS := Lib.hid hs
  obtain ⟨W0, hW0⟩ : ∃ W0, ((w.alloc (.cells #[.slice A1 s.river.length c1, .slice A2 s.boards.length c2, .slice A3 s.leaks.length c3, .slice A4 s.losses.length c4] 27)).alloc (.cells #[.slice none 0 0, .slice none 0 0, .slice none 0 0, .slice none 0 0] 27)) = W0 := ⟨_, rfl⟩
  have hsz : W0.heap.size = w.heap.size + 2 := by rw [← hW0]; simp
  have hB0 : Below w.heap.size w W0 := by rw [← hW0]; exact ((Below.refl _ _).alloc (Nat.le_refl _) _).alloc (by simp) _
  have K0 : (∀ j u, [Value.slice A1 s.river.length c1, .slice A2 s.boards.length c2, .slice A3 s.leaks.length c3, .slice A4 s.losses.length c4][j]? = some u → W0.cell? ⟨w.heap.size, j, none⟩ = some u) ∧ (∀ j, W0.frozen? ⟨w.heap.size, j, none⟩ = false) ∧ (∀ j, j < 4 → W0.cell? ⟨w.heap.size + 1, j, none⟩ = some (.slice none 0 0)) ∧ ∀ j, W0.frozen? ⟨w.heap.size + 1, j, none⟩ = false := by
    rw [← hW0]
    refine ⟨fun j u hj => ?_, fun j => by simp [go_sem], fun j hj => ?_, fun j => by simp [go_sem]⟩
    · match j, hj with
      | 0, hj => simpa [go_sem] using hj
      | 1, hj => simpa [go_sem] using hj
      | 2, hj => simpa [go_sem] using hj
      | 3, hj => simpa [go_sem] using hj
      | j + 4, hj => simp at hj
    · match j, hj with
      | 0, _ => simp [go_sem]
      | 1, _ => simp [go_sem]
      | 2, _ => simp [go_sem]
      | 3, _ => simp [go_sem]
  obtain ⟨W3, hW3⟩ : ∃ W3, W0.alloc (.cells #[] 3) = W3 := ⟨_, rfl⟩
  have g3 : GrownL [] W0 W3 := by rw [← hW3]; exact GrownL.of_below ((Below.refl _ _).alloc (Nat.le_refl _) _)
  have hs3 : W3.heap.size = w.heap.size + 3 := by rw [← hW3]; simp [hsz]
  have hB3 : Below w.heap.size w W3 := hB0.trans (g3.below (by simp) hB0.size)
  obtain ⟨v', W', r1, o1, g1, s1⟩ := app_list (P := Try.prog) (base := w.heap.size + 2) EI Try.underlying25 hz0 hj0 hj1 hj2 rfl (OwnG.lit0 encI 1 3 (W := W3) (g := W0.heap.size) (by rw [← hW3]; exact World.alloc_heap_new W0 _) (by omega)) hs.parts.1 hB3 (by omega) (by simp) (by omega) (by decide)
  rw [List.nil_append] at o1
  have hg1 : ∀ k, k < w.heap.size + 2 → k ∉ (Value.slice (some ⟨W0.heap.size, 0, none⟩) 0 0).ownBlock.toList := fun k hk hm => by simp [Value.ownBlock] at hm; omega
  have hB' : Below w.heap.size w W' := hB3.trans (g1.below (fun k hk => by simp [Value.ownBlock] at hk; omega) hB3.size)
  have KW := fun (a : Addr) (ha : a.block < w.heap.size + 2) => And.intro (fun u (hu : W0.cell? a = some u) => g1.cell (g3.cell hu (by simp)) (hg1 _ ha)) (fun (hu : W0.frozen? a = false) => (World.frozen?_of_block (a := a) (g1.block _ (by omega) (hg1 _ ha))).trans ((World.frozen?_of_block (a := a) (g3.block _ (by omega) (by simp))).trans hu))
  obtain ⟨Ag, cg, rfl, hAg⟩ := o1.form
  obtain ⟨g, rfl⟩ := hAg (by omega)
  have hgg := o1.lt g rfl
  have x0 := (KW ⟨w.heap.size, 0, none⟩ (by show w.heap.size < _; omega)).1 _ (K0.1 0 _ rfl)
  have x1 := (KW ⟨w.heap.size, 1, none⟩ (by show w.heap.size < _; omega)).1 _ (K0.1 1 _ rfl)
  have x2 := (KW ⟨w.heap.size, 2, none⟩ (by show w.heap.size < _; omega)).1 _ (K0.1 2 _ rfl)
  have x3 := (KW ⟨w.heap.size, 3, none⟩ (by show w.heap.size < _; omega)).1 _ (K0.1 3 _ rfl)
  have z1 := (KW ⟨w.heap.size, 0, none⟩ (by show w.heap.size < _; omega)).2 (K0.2.1 0)
  have R := Lib.hid (fun j (hj : j < 4) => And.intro ((KW ⟨w.heap.size + 1, j, none⟩ (by show w.heap.size + 1 < _; omega)).1 _ (K0.2.2.1 j hj)) ((KW ⟨w.heap.size + 1, j, none⟩ (by show w.heap.size + 1 < _; omega)).2 (K0.2.2.2 j)))
  have y1 : (W0.alloc (.cells #[] 3)).cell? ⟨w.heap.size, 0, none⟩ = some (.slice A1 s.river.length c1) := by rw [hW3]; exact g3.cell (K0.1 0 _ rfl) (by simp)
  have R1 := Lib.hid r1
  have HW0 := Lib.hid hW0
  have HW3 := Lib.hid hW3
  -- behind the store of the list
  obtain ⟨X, hX⟩ : ∃ X, W'.setCell ⟨w.heap.size, 0, none⟩ (.slice (some ⟨g, 0, none⟩) s.river.length cg) = X := ⟨_, rfl⟩
  have gX : GrownL [w.heap.size] W' X := by rw [← hX]; exact GrownL.set _ _ _ (by simp)
  have oX := o1.grown gX (fun b hb hm => by simp [Value.ownBlock] at hb hm; omega)
  have u2 : X.cell? ⟨w.heap.size, 0, none⟩ = some (.slice (some ⟨g, 0, none⟩) s.river.length cg) := by rw [← hX]; exact World.cell?_setCell_same' _ _ _ (by rw [x0]; rfl)
  have cX : ∀ j u, j ≠ 0 → W'.cell? ⟨w.heap.size, j, none⟩ = some u → X.cell? ⟨w.heap.size, j, none⟩ = some u := fun j u hj hu => by rw [← hX]; exact (World.cell?_setCell_other _ ⟨w.heap.size, 0, none⟩ ⟨w.heap.size, j, none⟩ _ (by simp <;> omega)).trans hu
  have G0 : Hid (GvS w g (.slice (some ⟨g, 0, none⟩) s.river.length cg) (.slice A2 s.boards.length c2) (.slice A3 s.leaks.length c3) (.slice A4 s.losses.length c4) X) := Lib.hid ⟨u2, cX 1 _ (by decide) x1, cX 2 _ (by decide) x2, cX 3 _ (by decide) x3, fun j hj => gX.cell (R.out j hj).1 (by simp), fun j hj => (World.frozen?_of_block (a := ⟨w.heap.size + 1, j, none⟩) (gX.block _ (by show w.heap.size + 1 < _; omega) (by simp))).trans (R.out j hj).2, hB'.trans (gX.below (by simp) hB'.size), by omega⟩
  have O0 : Hid (OwnG encI 1 3 (w.heap.size + 2) (.slice (some ⟨g, 0, none⟩) s.river.length cg) s.river X) := Lib.hid oX
  have HX := Lib.hid hX
  have HL := Lib.hid hl
  have HH := Lib.hid hh
  have HLL := Lib.hid hL
  have hll : (L.length : Int) ≤ 1000 := by omega
  clear hs hh hL r1 hW0 hW3 hX K0 hB0 hB3 hB' KW o1 oX gX cX hgg hg1 g1 g3 hs3 hsz hAg s1 R x1 x2 x3 u2
  go_enter Try.func39, Try.ntmps39
  go_upto_region 1 with fail
  rw [HW0.out]
  go_upto_region 2 with (at_builtin; rw [HW3.out]; refine Lib.wpList_append_run _ rfl _ _ _ _ rfl _ _ rfl rfl _ W' R1.out ?_)
  rw [HX.out]
  clear x0 z1 y1
  go_wp2_with fail
  go_loopw [7] (fun i wr => ∃ j : Nat, i = .int .i64 j ∧ j ≤ L.length ∧ OwnG encI 1 3 (w.heap.size + 2) (.slice (some ⟨g, 0, none⟩) s.river.length cg) (givT L s.river k j) wr ∧ GvS w g (.slice (some ⟨g, 0, none⟩) s.river.length cg) (.slice A2 s.boards.length c2) (.slice A3 s.leaks.length c3) (.slice A4 s.losses.length c4) wr) (fun i _ => L.length - (intOf i).toNat)
  case atStart => exact ⟨0, rfl, by omega, O0.out, G0.out⟩
  case round =>
    obtain ⟨j, rfl, hj, hO, hG⟩ := hrel
    have OO := Lib.hid hO
    have GG := Lib.hid hG
    have x0 := hG.c0
    clear hO hG O0 G0
    by_cases hjl : j < L.length
    · have hj0 : (j : Int) < (L.length : Int) := by omega
      have hjr : (j : Int) < (s.river.length : Int) := by have := HLL.out; omega
      obtain ⟨x, hx⟩ : ∃ x, L[j]? = some x := ⟨_, List.getElem?_eq_getElem hjl⟩
      obtain ⟨bh, oh, rfl, hbh, q⟩ := (HH.out.up GG.out.bel.size GG.out.bel).int hx
      have hgl := givT_len L s.river k j
      have hxd : L.getD j 0 = x := by rw [List.getD_eq_getElem?_getD, hx]; rfl
      have HXD := Lib.hid hxd
      obtain ⟨y, hy⟩ : ∃ y, (givT L s.river k j)[j]? = some y := ⟨_, List.getElem?_eq_getElem (by rw [hgl]; have := HLL.out; omega)⟩
      have ow' : wr.ownsRow (w.heap.size + 2) 3 1 (.slice (some ⟨g, 0, none⟩) s.river.length cg) s.river.length ((givT L s.river k j).flatMap encI) := by have := OO.out; unfold OwnG at this; rwa [hgl] at this
      have hat : ((givT L s.river k j).flatMap encI)[j]? = some (.int .i64 y) := by have := EI.at_ (givT L s.river k j) j 0 y hy (by decide); rw [Nat.mul_one, Nat.add_zero] at this; exact this.trans rfl
      have u0 : wr.cell? ⟨g, j, none⟩ = some (.int .i64 y) := (World.ownsRow.cellAt ow' j (by have := HLL.out; omega)).trans hat
      have u1 := World.ownsRow.frozenAt ow' j
      obtain ⟨Y, hY⟩ : ∃ Y, wr.setCell ⟨g, j, none⟩ (.int .i64 k) = Y := ⟨_, rfl⟩
      have O2 : Hid (OwnG encI 1 3 (w.heap.size + 2) (.slice (some ⟨g, 0, none⟩) s.river.length cg) ((givT L s.river k j).set j k) Y) := Lib.hid (by rw [← hY]; exact OwnG.set1 OO.out hgl.symm j k)
      have G2 : Hid (GvS w g (.slice (some ⟨g, 0, none⟩) s.river.length cg) (.slice A2 s.boards.length c2) (.slice A3 s.leaks.length c3) (.slice A4 s.losses.length c4) Y) := Lib.hid (GG.out.grown (bs := [g]) (by rw [← hY]; exact GrownL.set _ _ _ (by simp)) (by have := GG.out.gl; simp; omega))
      have HY := Lib.hid hY
      clear hx hgl hxd hy ow' hat hY
      by_cases h1 : x = 1
      · have h1b : (x == 1) = true := by rw [beq_iff_eq]; exact h1
        have HE : Hid (givT L s.river k (j + 1) = (givT L s.river k j).set j k) := Lib.hid (by show (if L.getD j 0 = 1 then _ else _) = _; rw [HXD.out, if_pos h1])
        subst h1
        go_wp2_with fail
        rw [HY.out]
        go_roundw
        case rel => exact ⟨j + 1, by go_num, by omega, by rw [HE.out]; exact O2.out, G2.out⟩
        case measure => show L.length - ((j : Int) + 1).toNat < L.length - (j : Int).toNat; omega
      · have h1b : (x == 1) = false := by rw [beq_eq_false_iff_ne]; exact h1
        have HE : Hid (givT L s.river k (j + 1) = givT L s.river k j) := Lib.hid (by show (if L.getD j 0 = 1 then _ else _) = _; rw [HXD.out, if_neg h1])
        go_wp2_with fail
        go_roundw
        case rel => exact ⟨j + 1, by go_num, by omega, by rw [HE.out]; exact OO.out, GG.out⟩
        case measure => show L.length - ((j : Int) + 1).toNat < L.length - (j : Int).toNat; omega
    · have hj0 : (L.length : Int) ≤ (j : Int) := by omega
      obtain rfl : j = L.length := by omega
      have x1 := GG.out.c1
      have x2 := GG.out.c2
      have x3 := GG.out.c3
      have r0 := GG.out.r 0 (by decide)
      have r1 := GG.out.r 1 (by decide)
      have r2 := GG.out.r 2 (by decide)
      have r3 := GG.out.r 3 (by decide)
      have f0 := GG.out.f 0 (by decide)
      have f1 := GG.out.f 1 (by decide)
      have f2 := GG.out.f 2 (by decide)
      have f3 := GG.out.f 3 (by decide)
      go_wp2_with fail
      obtain ⟨Z, hZ⟩ : ∃ Z, (((wr.setCell ⟨w.heap.size + 1, 0, none⟩ (.slice (some ⟨g, 0, none⟩) s.river.length cg)).setCell ⟨w.heap.size + 1, 1, none⟩ (.slice A2 s.boards.length c2)).setCell ⟨w.heap.size + 1, 2, none⟩ (.slice A3 s.leaks.length c3)).setCell ⟨w.heap.size + 1, 3, none⟩ (.slice A4 s.losses.length c4) = Z := ⟨_, rfl⟩
      obtain ⟨p0, p1, p2, p3, gz⟩ := set4b r0 r1 r2 r3 _ _ _ _ hZ
      rw [hZ]
      clear hZ
      refine bodyPost_ret (v := .agg #[.slice (some ⟨g, 0, none⟩) s.river.length cg, .slice A2 s.boards.length c2, .slice A3 s.leaks.length c3, .slice A4 s.losses.length c4]) (by simp [results, Try.results39, go_sem, p0, p1, p2, p3]) rfl ?_
      have bz := GG.out.bel.trans (gz.below (fun k hk => by simp at hk; omega) GG.out.bel.size)
      have hZs : w.heap.size ≤ Z.heap.size := bz.size
      refine ⟨_, rfl, ⟨_, _, _, _, rfl, ?_, (HS.out.parts.2.1).up hZs bz, (HS.out.parts.2.2.1).up hZs bz, (HS.out.parts.2.2.2).up hZs bz⟩, bz⟩
      have := (OO.out.grown gz (fun b hb hm => by have := (OO.out.lt b hb).1; simp at hm; omega)).rr EI (by rw [givT_len]; have := HL.out; show s.river.length ≤ 1000000000000000; omega)
      exact this
end Go.Proofs.Ytkoacclbempmdaa

/- Plain mathematics: what flows with another board of an outlet, with another river of its head. -/
namespace Go.Proofs.Ytkoacclbempmdaa
open Go.RowKit

theorem getElem?_set_cases {α : Type} {l : List α} {i j : Nat} {k x : α} (h : (l.set i k)[j]? = some x) : (i = j ∧ x = k) ∨ (i ≠ j ∧ l[j]? = some x) := by
  by_cases e : i = j
  · subst e
    have hl := (List.getElem?_eq_some_iff.1 h).1
    rw [List.length_set] at hl
    rw [List.getElem?_set_self hl] at h
    cases h
    exact .inl ⟨rfl, rfl⟩
  · rw [List.getElem?_set_ne e] at h
    exact .inr ⟨e, h⟩
theorem river_up {ws : Wk} {s : Wa} {j : Nat} {k k' : Int} (hk : k ≤ k') (e : Nat → Nat) : UpS ws e (setR s j k) (setR s j k') where
  r i c x y hc hx hy _ := by
    rcases getElem?_set_cases hx with ⟨e1, rfl⟩ | ⟨e1, hx⟩
    · rcases getElem?_set_cases hy with ⟨_, rfl⟩ | ⟨e2, _⟩
      · exact hk
      · exact absurd e1 e2
    · rcases getElem?_set_cases hy with ⟨e2, _⟩ | ⟨_, hy⟩
      · exact absurd e2 e1
      · rw [hx] at hy; cases hy; exact Int.le_refl _
  b i p x y _ hx hy := by
    have : some x = some y := hx.symm.trans hy
    cases this
    exact ⟨fun _ => Int.le_refl _, fun _ => Int.le_refl _⟩
  k i p x y _ hx hy := by
    have : some x = some y := hx.symm.trans hy
    cases this
    exact ⟨fun _ => Int.le_refl _, fun _ => Int.le_refl _⟩
  l i p x y _ hx hy _ := by
    have : some x = some y := hx.symm.trans hy
    cases this
    exact Int.le_refl _
/-- More of the river gives no less. -/
theorem sendP_mono {ws : Wk} {s : Wa} (hw : WOk ws) (hs : WaOk ws s) {i : Nat} {p : Pl} (hp : (allP ws)[i]? = some p) (j : Nat) {want : Int} {k k' : Nat} (hk : k ≤ k') (h1 : k' ≤ 1048576) (h : sendP ws s want i j k = true) : sendP ws s want i j k' = true := by
  unfold sendP at h ⊢
  rw [decide_eq_true_iff] at h ⊢
  exact Int.le_trans h (flow_mono hw (setR_ok hs (by omega) (by omega)) (setR_ok hs (by omega) (by omega)) hp (river_up (by omega) _))
theorem board_up {ws : Wk} {s : Wa} (hs : WaOk ws s) {i : Nat} {p : Pl} (hp : (allP ws)[i]? = some p) {e : Nat → Nat} (he : p.n + 1 = e p.c) {k : Int} (hk : ∀ x, s.boards[i]? = some x → k ≤ x) : UpS ws e (setB s i k) s where
  r i c x y _ hx hy _ := by
    have : some x = some y := hx.symm.trans hy
    cases this
    exact Int.le_refl _
  b j q x y hq hx hy := by
    rcases getElem?_set_cases hx with ⟨rfl, rfl⟩ | ⟨_, hx⟩
    · rw [hp] at hq
      cases hq
      exact ⟨fun _ => hk y hy, fun h => by omega⟩
    · rw [hx] at hy; cases hy; exact ⟨fun _ => Int.le_refl _, fun _ => Int.le_refl _⟩
  k i p x y _ hx hy := by
    have : some x = some y := hx.symm.trans hy
    cases this
    exact ⟨fun _ => Int.le_refl _, fun _ => Int.le_refl _⟩
  l i p x y _ hx hy _ := by
    have : some x = some y := hx.symm.trans hy
    cases this
    exact Int.le_refl _
theorem board_down {ws : Wk} {s : Wa} (hs : WaOk ws s) {i : Nat} {p : Pl} (hp : (allP ws)[i]? = some p) {e : Nat → Nat} (he : p.n + 1 < e p.c) {k : Int} (hk : ∀ x, s.boards[i]? = some x → k ≤ x) : UpS ws e s (setB s i k) where
  r i c x y _ hx hy _ := by
    have : some x = some y := hx.symm.trans hy
    cases this
    exact Int.le_refl _
  b j q x y hq hx hy := by
    rcases getElem?_set_cases hy with ⟨rfl, rfl⟩ | ⟨_, hy⟩
    · rw [hp] at hq
      cases hq
      exact ⟨fun h => by omega, fun _ => hk x hx⟩
    · rw [hx] at hy; cases hy; exact ⟨fun _ => Int.le_refl _, fun _ => Int.le_refl _⟩
  k i p x y _ hx hy := by
    have : some x = some y := hx.symm.trans hy
    cases this
    exact ⟨fun _ => Int.le_refl _, fun _ => Int.le_refl _⟩
  l i p x y _ hx hy _ := by
    have : some x = some y := hx.symm.trans hy
    cases this
    exact Int.le_refl _
theorem board0_ok {ws : Wk} (hw : WOk ws) {s : Wa} (hs : WaOk ws s) {i : Nat} {p : Pl} (hp : (allP ws)[i]? = some p) : WaOk ws (setB s i 0) :=
  setB_ok hs hp (Int.le_refl _) (by have := (hw.ou hp).pl; omega)
/-- A lower board of an outlet gives it no more. -/
theorem board_less {ws : Wk} (hw : WOk ws) {s : Wa} (hs : WaOk ws s) {i : Nat} {p : Pl} (hp : (allP ws)[i]? = some p) : (flowF ws (setB s i 0)).thr.getD i 0 ≤ (flowF ws s).thr.getD i 0 :=
  flow_mono hw (board0_ok hw hs hp) hs hp (board_up hs hp (endE_at hw hp (pathOf_is hw (lt_total hp)).self_mem hp).symm (fun x hx => (hs.ob i p x hp hx).1))
/-- .. and those behind it on its carrier no less. -/
theorem board_behind {ws : Wk} (hw : WOk ws) {s : Wa} (hs : WaOk ws s) {i k c : Nat} (h0 : pre ws c ≤ i) (h1 : i < k) (h2 : k < pre ws (c + 1)) (hc : c < ws.length) : (flowF ws s).thr.getD k 0 ≤ (flowF ws (setB s i 0)).thr.getD k 0 := by
  have hps := pre_succ (List.getElem?_eq_getElem hc)
  have hle := pre_le ws (c + 1)
  obtain ⟨p, hp⟩ := at_total (ws := ws) (n := i) (by omega)
  obtain ⟨q, hq⟩ := at_total (ws := ws) (n := k) (by omega)
  have e1 : p.c = c := by
    have := pl_before hp (c := c + 1) (by omega)
    have := pl_behind hp (c := c) (by omega)
    omega
  have e2 : q.c = c := by
    have := pl_before hq (c := c + 1) (by omega)
    have := pl_behind hq (c := c) (by omega)
    omega
  obtain ⟨-, _, _, _, h3⟩ := allP_inv hp
  obtain ⟨-, _, _, _, h4⟩ := allP_inv hq
  have he := endE_at hw hq (pathOf_is hw (lt_total hq)).self_mem hq
  rw [e1] at h3
  rw [e2] at h4 he
  exact flow_mono hw hs (board0_ok hw hs hp) hq (board_down hs hp (by rw [e1, he]; omega) (fun x hx => (hs.ob i p x hp hx).1))

theorem head_first {ws : Wk} {c : Nat} (h : c ∈ headsN ws) : FstIs (fun o : Ou => o.into) (outs ws) (c : Int) (-1) := by
  refine .inr ⟨fun j o ho he => ?_, rfl⟩
  unfold headsN at h
  rw [List.mem_filter] at h
  have h2 := h.2
  unfold fedB at h2
  rw [Bool.not_eq_true', List.any_eq_false] at h2
  obtain ⟨p, hp⟩ := at_total (ws := ws) (n := j) (by have := (List.getElem?_eq_some_iff.1 ho).1; rw [outs_len] at this; exact this)
  have hop : p.o = o := by have := (outs_get hp).1; rw [ho] at this; cases this; rfl
  have := h2 p (List.mem_of_getElem? hp)
  rw [hop] at this
  simp [he] at this
/-- One head has a sign. -/
theorem one_head {ws : Wk} (hw : WOk ws) {i : Nat} {p : Pl} (hp : (allP ws)[i]? = some p) : headAt ws p.o.id < (headsN ws).length ∧ ∀ j, j < (headsN ws).length → ((sigH ws p.o.id).getD j 0 = 1 ↔ j = headAt ws p.o.id) := by
  have hP := pathOf_is hw (lt_total hp)
  obtain ⟨k0, r, q0, hl, hq, hf⟩ := hP.top
  have hm : k0 ∈ pathOf ws i := by rw [hl]; simp
  have hc0 : q0.c ∈ headsN ws := by
    unfold headsN
    rw [List.mem_filter]
    obtain ⟨-, os, h1, -, -⟩ := allP_inv hq
    refine ⟨List.mem_range.2 (List.getElem?_eq_some_iff.1 h1).1, ?_⟩
    rw [Bool.not_eq_true', Bool.eq_false_iff]
    intro hb
    unfold fedB at hb
    rw [List.any_eq_true] at hb
    obtain ⟨x, hx, e⟩ := hb
    rw [decide_eq_true_iff] at e
    rcases hf with ⟨_, _, _, _, _, h⟩ | ⟨hn, -⟩
    · omega
    · obtain ⟨j, hj⟩ := List.mem_iff_getElem?.1 hx
      exact hn j x.o (outs_get hj).1 e
  have sg : ∀ c ∈ headsN ws, sgH (endE ws p.o.id) c = if c = q0.c then 1 else 0 := fun c hc => by
    unfold sgH
    by_cases e : c = q0.c
    · subst e
      rw [endE_at hw hp hm hq, if_pos rfl]
      omega
    · rw [endE_none hw hp (fun k hk q hqk he => ?_), if_neg e]
      · rfl
      · have hf := head_first hc
        rw [← he] at hf
        have := hP.fed hw k hk q hqk hf
        rw [hl] at this
        simp at this
        subst this
        rw [hq] at hqk
        cases hqk
        exact e he.symm
  obtain ⟨j0, hj0⟩ := List.mem_iff_getElem?.1 hc0
  have hj0l := (List.getElem?_eq_some_iff.1 hj0).1
  have at_ : ∀ (j c : Nat), (headsN ws)[j]? = some c → (sigH ws p.o.id)[j]? = some (if c = q0.c then 1 else 0) := fun j c h => by
    unfold sigH
    rw [List.getElem?_map, h]
    simp only [Option.map_some]
    rw [sg c (List.mem_of_getElem? h)]
  have uniq : ∀ j : Nat, j < (headsN ws).length → ((sigH ws p.o.id).getD j 0 = 1 ↔ j = j0) := fun j hj => by
    obtain ⟨c, hc⟩ : ∃ c, (headsN ws)[j]? = some c := ⟨_, List.getElem?_eq_getElem hj⟩
    rw [List.getD_eq_getElem?_getD, at_ j c hc]
    simp only [Option.getD_some]
    constructor
    · intro h
      by_cases e : c = q0.c
      · subst e
        exact (List.getElem?_inj hj (headsN_nodup ws)).1 (hc.trans hj0.symm)
      · rw [if_neg e] at h
        omega
    · rintro rfl
      rw [hc] at hj0
      cases hj0
      rw [if_pos rfl]
  have hh : headAt ws p.o.id = j0 := by
    unfold headAt idxI
    have : (sigH ws p.o.id).idxOf? 1 = some j0 := by
      rw [List.idxOf?_eq_some_iff]
      have hlen : (sigH ws p.o.id).length = (headsN ws).length := by unfold sigH; rw [List.length_map]
      have e1 := at_ j0 q0.c hj0
      rw [if_pos rfl] at e1
      refine ⟨by omega, (List.getElem?_eq_some_iff.1 e1).2, fun j hj => ?_⟩
      have h2 := (uniq j (by omega)).1
      intro h3
      have : (sigH ws p.o.id).getD j 0 = 1 := by rw [List.getD_eq_getElem?_getD, List.getElem?_eq_getElem (by omega)]; exact h3
      have := h2 this
      omega
    rw [this]
    rfl
  rw [hh]
  exact ⟨hj0l, uniq⟩
theorem givT_one {L r : List Int} {k : Int} {j0 : Nat} (h : ∀ j, j < L.length → (L.getD j 0 = 1 ↔ j = j0)) : ∀ n, n ≤ L.length → givT L r k n = if j0 < n then r.set j0 k else r
  | 0, _ => by rw [if_neg (by omega)]; rfl
  | n + 1, hn => by
    show (if L.getD n 0 = 1 then (givT L r k n).set n k else givT L r k n) = _
    rw [givT_one h n (by omega)]
    by_cases e : n = j0
    · subst e
      rw [if_pos ((h n (by omega)).2 rfl), if_neg (by omega), if_pos (by omega)]
    · rw [if_neg (fun hh => e ((h n (by omega)).1 hh))]
      by_cases e2 : j0 < n
      · rw [if_pos e2, if_pos (by omega)]
      · rw [if_neg e2, if_neg (by omega)]
theorem given_setR {ws : Wk} (hw : WOk ws) {s : Wa} {i : Nat} {p : Pl} (hp : (allP ws)[i]? = some p) (k : Int) : (⟨givT (sigH ws p.o.id) s.river k (sigH ws p.o.id).length, s.boards, s.leaks, s.losses⟩ : Wa) = setR s (headAt ws p.o.id) k := by
  obtain ⟨h1, h2⟩ := one_head hw hp
  have hlen : (sigH ws p.o.id).length = (headsN ws).length := by unfold sigH; rw [List.length_map]
  unfold setR
  rw [givT_one (fun j hj => h2 j (by omega)) _ (Nat.le_refl _), if_pos (by omega)]
end Go.Proofs.Ytkoacclbempmdaa

/- Contract of Path. -/
namespace Go.Proofs.Ytkoacclbempmdaa
open Go.RowKit

theorem id_wf {ws : Wk} (hw : WOk ws) {n : Nat} {p : Pl} (hp : (allP ws)[n]? = some p) : (Lit.int .i64 p.o.id).wf = true := by
  have := hw.ou hp
  have h3 := this.i0
  have h4 := this.i1
  have m0 : IntKind.i64.min = -9223372036854775808 := rfl
  have m1 : IntKind.i64.max = 9223372036854775807 := rfl
  simp only [Lit.wf, m0, m1, Bool.and_eq_true, decide_eq_true_eq]
  omega
theorem fst_id {ws : Wk} {id : Int} {n : Nat} {p : Pl} (hf : FstIs (fun o : Ou => o.id) (outs ws) id n) (hp : (allP ws)[n]? = some p) : p.o.id = id := by
  rcases hf with ⟨k, o, ho, he, _, hk⟩ | ⟨_, h⟩
  · obtain rfl : n = k := by omega
    rw [(outs_get hp).1] at ho
    cases ho
    exact he
  · omega
theorem byId_all {ws : Wk} (hw : WOk ws) {n : Nat} {p : Pl} (hp : (allP ws)[n]? = some p) : byIdS ws (allP ws) p.o.id = pathV ws n := by
  have := byIdS_at hw (lt_total hp) hp
  rwa [List.take_of_length_le (by rw [allP_len]; exact Nat.le_refl _)] at this
def PathPost (d : Int) (M : List Int) (w : World) (e : Ending) (w' : World) : Prop := ∃ u, e = .returned (.tuple #[u, .int .i64 d]) ∧ OwnG encI 1 3 w.heap.size u M w' ∧ Below w.heap.size w w'
set_option maxHeartbeats 8000000 in
set_option maxRecDepth 1000000 in
theorem Path_any (v : Value) (ws : Wk) (id d : Int) (M : List Int) (w : World) (h : RK w.heap.size v ws w) (ht : total ws ≤ 100000) (hc : PathR ws id d M) :
    Calls Try.prog 50 #[.agg #[v], .int .i64 id] w (PathPost d M w) := by
  obtain ⟨A, c, rfl, -⟩ := (show ∃ A c, v = .slice A ws.length c ∧ True by obtain ⟨A, c, e, _⟩ := h; exact ⟨A, c, e, trivial⟩)
  obtain ⟨i, hk, hc⟩ := hc
  have C1 := Lib.hid fun W (S : Wd w (.slice A ws.length c) W) => checkOutlet_any (.slice A ws.length c) ws id i d W (h.up S.siz S.bel) ht hk
  have C2 := Lib.hid fun (hw : WOk ws) W (S : Wd w (.slice A ws.length c) W) => paths_any A c ws W (h.up S.siz S.bel) hw
  have S0 := Lib.hid (Wd.new (w := w) (v := .slice A ws.length c) 24)
  have HK := Lib.hid hk
  have HC := Lib.hid hc
  clear h hk hc
  go_enter Try.func50, Try.ntmps50
  go_wp2_with fail
  refine (C1.out _ S0.out).mono ?_
  rintro e w1 ⟨rfl, b1⟩
  have S := Lib.hid (S0.out.below b1)
  clear b1
  by_cases h0 : d = 0
  rotate_left
  · have hdb : (d != 0) = true := by rw [bne_iff_ne]; exact h0
    have HM : Hid (M = []) := Lib.hid (by rcases HC.out with ⟨_, h⟩ | ⟨h, _⟩; exact h; exact absurd h h0)
    go_wp2_with fail
    refine bodyPost_ret (results_tmp2 rfl _ _ _) rfl ?_
    exact ⟨_, rfl, by rw [HM.out]; exact OwnG.nil _ _ _ _ _, S.out.bel⟩
  subst h0
  obtain ⟨n, p, rfl, hf, hp⟩ := HK.out.at_
  have hw := HK.out.chk.1
  have HW := Lib.hid hw
  obtain rfl := fst_id hf hp
  have HWF := Lib.hid (id_wf hw hp)
  have HM : Hid (M = byIdS ws (allP ws) p.o.id) := Lib.hid (by
    rcases HC.out with ⟨h, _⟩ | ⟨_, k, L, hk, hL, rfl⟩
    · exact absurd rfl h
    · obtain rfl : n = k := by omega
      rw [byId_all hw hp]
      unfold pathV
      rw [pathOf_eq hw hL])
  have x0 := S.out.c
  clear hw hf hp HC
  go_wp2_with fail
  refine (C2.out HW.out _ S.out).mono ?_
  rintro e w2 ⟨rfl, hpm, b2⟩
  have S2 := Lib.hid (S.out.below b2)
  obtain ⟨u, hu, hrun⟩ := hpm.look p.o.id HWF.out
  have HU := Lib.hid hu
  have hrun2 := hrun w2 rfl
  clear b2 x0 hpm hrun hu
  go_wp2_with fail
  refine bodyPost_ret (results_tmp2 rfl _ _ _) rfl ?_
  exact ⟨u, rfl, by rw [HM.out]; exact HU.out.low (by have := S.out.siz; omega), S2.out.bel⟩
end Go.Proofs.Ytkoacclbempmdaa

/- Contract of the specification's Send. -/
namespace Go.Proofs.Ytkoacclbempmdaa
open Go.RowKit

/-- What Send keeps besides works and water: another water in the making. -/
structure SnS (w : World) (q g : Nat) (a b c d : Value) (W : World) : Prop where
  c0 : W.cell? ⟨q, 0, none⟩ = some a
  c1 : W.cell? ⟨q, 1, none⟩ = some b
  c2 : W.cell? ⟨q, 2, none⟩ = some c
  c3 : W.cell? ⟨q, 3, none⟩ = some d
  lt : q < g
  ge : w.heap.size + 2 ≤ q
theorem SnS.grown {w W W' : World} {q g : Nat} {a b c d : Value} {bs : List Nat} (h : SnS w q g a b c d W) (hg : GrownL bs W W') (hn : q ∉ bs) : SnS w q g a b c d W' := ⟨hg.cell h.c0 hn, hg.cell h.c1 hn, hg.cell h.c2 hn, hg.cell h.c3 hn, h.lt, h.ge⟩
theorem set_same {l : List Int} {j : Nat} {x : Int} (h : l[j]? = some x) : l.set j x = l := by
  obtain ⟨h1, h2⟩ := List.getElem?_eq_some_iff.1 h
  rw [← h2, List.set_getElem_self]
set_option maxHeartbeats 16000000 in
set_option maxRecDepth 1000000 in
theorem rSend_any (v wv : Value) (ws : Wk) (s : Wa) (id want i d : Int) (w : World) (h : RK w.heap.size v ws w) (ht : total ws ≤ 100000) (hs : RWa w.heap.size wv s w) (hd : WishAt ws s id want i d) :
    Calls Try.prog 72 #[.agg #[v], wv, .int .i64 id, .int .i64 want] w (SendR ws s id want i d w) := by
  obtain ⟨A, c, rfl, -⟩ := (show ∃ A c, v = .slice A ws.length c ∧ True by obtain ⟨A, c, e, _⟩ := h; exact ⟨A, c, e, trivial⟩)
  obtain ⟨A1, c1, A2, c2, A3, c3, A4, c4, rfl⟩ := hs.form
  have S0 := Lib.hid (WW.new w (.slice A ws.length c) (.slice A1 s.river.length c1) (.slice A2 s.boards.length c2) (.slice A3 s.leaks.length c3) (.slice A4 s.losses.length c4))
  have C1 := Lib.hid fun W (hb : Below w.heap.size w W) => rwished_any (.slice A ws.length c) _ ws s id want i d W (h.up hb.size hb) ht (hs.up hb.size hb) hd
  have C2 := Lib.hid fun (hw : WOk ws) (n : Nat) (p : Pl) (hp : (allP ws)[n]? = some p) W (hb : Below w.heap.size w W) => rsigns_any A c ws n p W (h.up hb.size hb) hw hp
  have H := Lib.hid h
  have HS := Lib.hid hs
  have HD := Lib.hid hd
  have HT := Lib.hid ht
  clear h hs hd ht
  go_enter Try.func72, Try.ntmps72
  go_wp2_with fail
  refine (C1.out _ S0.out.bel).mono ?_
  rintro e w1 ⟨rfl, b1⟩
  have S := Lib.hid (S0.out.below b1)
  clear b1 S0
  by_cases hd0 : d = 0
  rotate_left
  · have hdb : (d != 0) = true := by rw [bne_iff_ne]; exact hd0
    have HN := Lib.hid hd0
    go_wp2_with fail
    refine bodyPost_ret (results_tmp2 rfl _ _ _) rfl ?_
    exact ⟨0, d, rfl, fun _ => ⟨rfl, rfl⟩, fun h => absurd h HN.out, S.out.bel⟩
  subst hd0
  obtain ⟨hw, ho, -, n, p, rfl, hf, hp⟩ := HD.out.ok
  have HW := Lib.hid hw
  have HO := Lib.hid ho
  have HP := Lib.hid hp
  have HPID := Lib.hid (fst_id hf hp)
  have HONE := Lib.hid (one_head hw hp)
  have hrl : s.river.length = (headsN ws).length := ho.r
  have HRL := Lib.hid hrl
  have HR1 : Hid (s.river.length ≤ 100) := Lib.hid (by have h2 := headsL_len hw; unfold headsL at h2; rw [List.length_map] at h2; have := hw.len; omega)
  have x0 := S.out.wk
  clear hw ho hf hp hrl
  go_wp2_with fail
  refine (C2.out HW.out n p HP.out _ S.out.bel).mono ?_
  rintro e w2 ⟨v1, v2, v3, rfl, o1, o2, o3, b2⟩
  rw [HPID.out] at o1 HONE
  replace S := Lib.hid (S.out.below b2)
  have hsl : (sigH ws id).length = s.river.length := by unfold sigH; rw [List.length_map, HRL.out]
  have R1 := Lib.hid (o1.rr EI (by rw [hsl]; have := HR1.out; show s.river.length ≤ 1000000000000000; omega))
  obtain ⟨U1, d1, rfl, -⟩ := o1.form
  obtain ⟨U2, d2, rfl, -⟩ := o2.form
  obtain ⟨U3, d3, rfl, -⟩ := o3.form
  obtain ⟨m2, hm2⟩ : ∃ m, (sigO ws p.o.id).length = m := ⟨_, rfl⟩
  obtain ⟨m3, hm3⟩ : ∃ m, (sigR ws p.o.id).length = m := ⟨_, rfl⟩
  rw [hm2, hm3]
  rw [hsl] at R1 ⊢
  clear o1 o2 o3 b2 x0 hm2 hm3
  obtain ⟨jh, hjh⟩ : ∃ j, headAt ws id = j := ⟨_, rfl⟩
  have HJ := Lib.hid hjh
  rw [hjh] at HONE
  obtain ⟨w3, hw3⟩ : ∃ W, w2.alloc (.cells #[.slice U1 s.river.length d1, .slice U2 m2 d2, .slice U3 m3 d3, .int .i64 0] 94) = W := ⟨_, rfl⟩
  have b3 : Below w2.heap.size w2 w3 := by rw [← hw3]; exact (Below.refl _ _).alloc (Nat.le_refl _) _
  have I : Hid (w3.cell? ⟨w2.heap.size, 0, none⟩ = some (.slice U1 s.river.length d1)) := Lib.hid (by rw [← hw3]; simp [go_sem])
  replace S := Lib.hid (S.out.below b3)
  replace R1 := Lib.hid (R1.out.up b3.size b3)
  have HW3 := Lib.hid hw3
  have HSL := Lib.hid hsl
  clear hw3 b3 hjh hsl
  go_upto_region 5 with fail
  rw [HW3.out]
  have i0 := I.out
  have hr0 : (s.river.length : Int) ≤ 100 := by have := HR1.out; omega
  go_wp2_with fail
  go_loopw [13, 14] (fun a k wr => ∃ j : Nat, k = .int .i64 j ∧ j ≤ s.river.length ∧ a = .int .i64 ((if jh < j then jh else 0 : Nat) : Int) ∧ wr = w3) (fun _ k _ => s.river.length - (intOf k).toNat)
  case atStart => exact ⟨0, rfl, by omega, by rw [if_neg (by omega)]; rfl, rfl⟩
  case round =>
    obtain ⟨j, rfl, hj, rfl, rfl⟩ := hrel
    by_cases hjl : j < s.river.length
    · have hj0 : (j : Int) < (s.river.length : Int) := by omega
      obtain ⟨x, hx⟩ : ∃ x, (sigH ws id)[j]? = some x := ⟨_, List.getElem?_eq_getElem (by rw [HSL.out]; exact hjl)⟩
      obtain ⟨b, o, rfl, -, q0⟩ := R1.out.int hx
      have hone := HONE.out.2 j (by have := HRL.out; omega)
      rw [List.getD_eq_getElem?_getD, hx] at hone
      simp only [Option.getD_some] at hone
      have HN := Lib.hid hone
      clear hx hone
      by_cases h1 : x = 1
      · have h1b : (x == 1) = true := by rw [beq_iff_eq]; exact h1
        have HE : Hid (j = jh) := Lib.hid (HN.out.1 h1)
        subst h1
        go_wp2_with fail
        go_roundw
        case rel => exact ⟨j + 1, by go_num, by omega, by rw [if_pos (by have := HE.out; omega), HE.out], trivial⟩
        case measure => show s.river.length - ((j : Int) + 1).toNat < s.river.length - (j : Int).toNat; omega
      · have h1b : (x == 1) = false := by rw [beq_eq_false_iff_ne]; exact h1
        have HE : Hid (j ≠ jh) := Lib.hid (fun e => h1 (HN.out.2 e))
        go_wp2_with fail
        go_roundw
        case rel => exact ⟨j + 1, by go_num, by omega, by
          have := HE.out
          by_cases e : jh < j
          · rw [if_pos e, if_pos (by omega)]
          · rw [if_neg e, if_neg (by omega)], trivial⟩
        case measure => show s.river.length - ((j : Int) + 1).toNat < s.river.length - (j : Int).toNat; omega
    · have hj0 : (s.river.length : Int) ≤ (j : Int) := by omega
      have HJR : Hid (jh < s.river.length) := Lib.hid (by have := HONE.out.1; have := HRL.out; omega)
      rw [if_pos (by have := HJR.out; omega)]
      have x1 := S.out.r
      have x2 := S.out.b
      have x3 := S.out.k
      have x4 := S.out.l
      go_upto_region 12 with fail
      obtain ⟨W1, hW1⟩ : ∃ W, wr.alloc (.cells #[.slice A1 s.river.length c1, .slice A2 s.boards.length c2, .slice A3 s.leaks.length c3, .slice A4 s.losses.length c4] 27) = W := ⟨_, rfl⟩
      have bW1 : Below wr.heap.size wr W1 := by rw [← hW1]; exact (Below.refl _ _).alloc (Nat.le_refl _) _
      have hsz : W1.heap.size = wr.heap.size + 1 := by rw [← hW1]; simp
      have K1 : W1.cell? ⟨wr.heap.size, 0, none⟩ = some (.slice A1 s.river.length c1) ∧ W1.cell? ⟨wr.heap.size, 1, none⟩ = some (.slice A2 s.boards.length c2) ∧ W1.cell? ⟨wr.heap.size, 2, none⟩ = some (.slice A3 s.leaks.length c3) ∧ W1.cell? ⟨wr.heap.size, 3, none⟩ = some (.slice A4 s.losses.length c4) ∧ W1.frozen? ⟨wr.heap.size, 0, none⟩ = false := by rw [← hW1]; exact ⟨by simp [go_sem], by simp [go_sem], by simp [go_sem], by simp [go_sem], by simp [go_sem]⟩
      rw [hW1]
      have S1 := Lib.hid (S.out.below bW1)
      obtain ⟨v', W', r1, o1', g1⟩ := copyI HS.out.parts.1 S1.out.bel (by have := HR1.out; omega)
      obtain ⟨Ag, cg, rfl, hAg⟩ := o1'.form
      obtain ⟨g, rfl⟩ := hAg (by have := HJR.out; omega)
      have hgg := o1'.lt g rfl
      have RR1 := Lib.hid r1
      have y1 : (W1.alloc (.cells #[] 3)).cell? ⟨w.heap.size + 1, 0, none⟩ = some (.slice A1 s.river.length c1) := (((Below.refl W1.heap.size W1).alloc (Nat.le_refl _) (.cells #[] 3)).cell (p := ⟨w.heap.size + 1, 0, none⟩) (World.block_lt_of_cell? _ _ S1.out.r)).trans S1.out.r
      have k1 := (g1.cell (p := ⟨wr.heap.size, 0, none⟩) (by show wr.heap.size < _; omega)).trans K1.1
      have z1 := (g1.frozen (p := ⟨wr.heap.size, 0, none⟩) (by show wr.heap.size < _; omega)).trans K1.2.2.2.2
      obtain ⟨X, hX⟩ : ∃ X, W'.setCell ⟨wr.heap.size, 0, none⟩ (.slice (some ⟨g, 0, none⟩) s.river.length cg) = X := ⟨_, rfl⟩
      have gX : GrownL [wr.heap.size] W' X := by rw [← hX]; exact GrownL.set _ _ _ (by simp)
      have oX := o1'.grown gX (fun b hb hm => by simp [Value.ownBlock] at hb hm; omega)
      have cX : ∀ j u, j ≠ 0 → W1.cell? ⟨wr.heap.size, j, none⟩ = some u → X.cell? ⟨wr.heap.size, j, none⟩ = some u := fun j u hj hu => by rw [← hX]; exact (World.cell?_setCell_other _ ⟨wr.heap.size, 0, none⟩ ⟨wr.heap.size, j, none⟩ _ (by simp <;> omega)).trans ((g1.cell (p := ⟨wr.heap.size, j, none⟩) (by show wr.heap.size < _; omega)).trans hu)
      have N0 : Hid (SnS w wr.heap.size g (.slice (some ⟨g, 0, none⟩) s.river.length cg) (.slice A2 s.boards.length c2) (.slice A3 s.leaks.length c3) (.slice A4 s.losses.length c4) X) := Lib.hid ⟨by rw [← hX]; exact World.cell?_setCell_same' _ _ _ (by rw [k1]; rfl), cX 1 _ (by decide) K1.2.1, cX 2 _ (by decide) K1.2.2.1, cX 3 _ (by decide) K1.2.2.2.1, by omega, S.out.siz⟩
      have bX : Below wr.heap.size wr X := bW1.trans ((g1.mono (by omega)).trans (gX.below (by simp) (by have := g1.size; omega)))
      have SX := Lib.hid (S.out.below bX)
      have OX : Hid (∃ m, OwnG encI 1 3 (wr.heap.size + 1) (.slice (some ⟨g, 0, none⟩) s.river.length cg) (s.river.set jh m) X) := Lib.hid (by
        obtain ⟨x, hx⟩ : ∃ x, s.river[jh]? = some x := ⟨_, List.getElem?_eq_getElem HJR.out⟩
        exact ⟨x, by rw [set_same hx, ← hsz]; exact oX⟩)
      have HX := Lib.hid hX
      have hjr : (jh : Int) < (s.river.length : Int) := by have := HJR.out; omega
      have hjr0 : (jh : Int) ≤ 100 := by have := HR1.out; omega
      clear r1 hW1 hX o1' oX gX cX hgg g1 hsz hAg K1 bW1 bX x1 x2 x3 x4 hj0 hj hjl R1 i0 I S S1 C1 C2
      go_upto_region 13 with (at_builtin; refine Lib.wpList_append_run _ rfl _ _ _ _ rfl _ _ rfl rfl _ W' RR1.out ?_)
      rw [HX.out]
      obtain ⟨q, hq⟩ : ∃ q, wr.heap.size = q := ⟨_, rfl⟩
      rw [hq] at N0 OX ⊢
      clear y1 k1 z1 hq HX
      go_wp2_with fail
      go_loopw [16, 17] (fun a b wx => ∃ lo hi : Nat, a = .int .i64 lo ∧ b = .int .i64 hi ∧ lo ≤ hi ∧ hi ≤ 1048577 ∧ (0 < lo → sendP ws s want n jh (lo - 1) = false) ∧ (hi < 1048577 → sendP ws s want n jh hi = true) ∧ WW w (.slice A ws.length c) (.slice A1 s.river.length c1) (.slice A2 s.boards.length c2) (.slice A3 s.leaks.length c3) (.slice A4 s.losses.length c4) wx ∧ SnS w q g (.slice (some ⟨g, 0, none⟩) s.river.length cg) (.slice A2 s.boards.length c2) (.slice A3 s.leaks.length c3) (.slice A4 s.losses.length c4) wx ∧ ∃ m, OwnG encI 1 3 (q + 1) (.slice (some ⟨g, 0, none⟩) s.river.length cg) (s.river.set jh m) wx) (fun a b _ => (intOf b).toNat - (intOf a).toNat)
      case atStart => exact ⟨0, 1048577, rfl, rfl, by omega, by omega, fun h => by omega, fun h => by omega, SX.out, N0.out, OX.out⟩
      case round =>
        obtain ⟨lo, hi, rfl, rfl, hle, hhi, hpl, hph, hS, hN, m0, hO⟩ := hrel
        have S := Lib.hid hS
        have N := Lib.hid hN
        have O := Lib.hid hO
        have HPL := Lib.hid hpl
        have HPH := Lib.hid hph
        have x0 := hN.c0
        clear hS hN hO hpl hph SX N0 OX
        by_cases hlh : lo < hi
        · have hlh0 : (lo : Int) < (hi : Int) := by omega
          obtain ⟨m, hm⟩ : ∃ m, (lo + hi) / 2 = m := ⟨_, rfl⟩
          have hm1 : lo ≤ m := by omega
          have hm2 : m < hi := by omega
          have hwr : IntKind.i64.wrap ((lo : Int) + hi) = (lo : Int) + hi := IntWalk.i64_in _ (by omega)
          have htd : ((lo : Int) + hi).tdiv 2 = (m : Int) := by rw [Int.tdiv_eq_ediv_of_nonneg (by omega)]; omega
          clear hm
          have ow' := O.out
          unfold OwnG at ow'
          rw [List.length_set] at ow'
          have hat : ((s.river.set jh m0).flatMap encI)[jh]? = some (.int .i64 m0) := by
            have hg0 : (s.river.set jh m0)[jh]? = some m0 := by rw [List.getElem?_set_self HJR.out]
            have := EI.at_ (s.river.set jh m0) jh 0 m0 hg0 (by decide)
            rw [Nat.mul_one, Nat.add_zero] at this
            exact this.trans rfl
          have u0 : wr.cell? ⟨g, jh, none⟩ = some (.int .i64 m0) := (World.ownsRow.cellAt ow' jh (by have := HJR.out; omega)).trans hat
          have u1 := World.ownsRow.frozenAt ow' jh
          obtain ⟨Y, hY⟩ : ∃ Y, wr.setCell ⟨g, jh, none⟩ (.int .i64 m) = Y := ⟨_, rfl⟩
          have gY : GrownL [g] wr Y := by rw [← hY]; exact GrownL.set _ _ _ (by simp)
          have oY : OwnG encI 1 3 (q + 1) (.slice (some ⟨g, 0, none⟩) s.river.length cg) (s.river.set jh m) Y := by
            have := OwnG.set1 O.out (by rw [List.length_set]) jh (m : Int)
            rw [List.set_set] at this
            rw [← hY]; exact this
          have hq1 := N.out.lt
          have hq2 := N.out.ge
          have SY := Lib.hid (S.out.grown gY (by simp; omega) (by simp; omega) (by simp; omega))
          have NY := Lib.hid (N.out.grown gY (by simp; omega))
          have OY := Lib.hid oY
          have HY := Lib.hid hY
          have HSK := Lib.hid (setR_ok HO.out (j := jh) (k := (m : Int)) (by omega) (by omega))
          have a0 := NY.out.c0
          have a1 := NY.out.c1
          have a2 := NY.out.c2
          have a3 := NY.out.c3
          have y0 := SY.out.wk
          have RY : Hid (RWa Y.heap.size (.agg #[.slice (some ⟨g, 0, none⟩) s.river.length cg, .slice A2 s.boards.length c2, .slice A3 s.leaks.length c3, .slice A4 s.losses.length c4]) (setR s jh m) Y) := Lib.hid ⟨_, _, _, _, rfl, by
            have := OY.out.rr EI (by rw [List.length_set]; have := HR1.out; show s.river.length ≤ 1000000000000000; omega)
            exact this, (HS.out.parts.2.1).up SY.out.bel.size SY.out.bel, (HS.out.parts.2.2.1).up SY.out.bel.size SY.out.bel, (HS.out.parts.2.2.2).up SY.out.bel.size SY.out.bel⟩
          clear ow' hat gY oY hY hq1 hq2 S N O
          go_upto_region 18 with fail
          rw [HY.out]
          clear x0 u0 u1
          go_wp2_with fail
          refine (rflow_any A c _ ws (setR s jh m) _ (H.out.up SY.out.bel.size SY.out.bel) RY.out HW.out HSK.out).mono ?_
          rintro e w5 ⟨v1, v2, rfl, q1, q2, b5⟩
          have S5 := Lib.hid (SY.out.below b5)
          have N5 := Lib.hid (NY.out.grown (GrownL.of_below (bs := []) b5) (by simp))
          have O5 := Lib.hid (OY.out.below b5)
          have hl1 : (flowF ws (setR s jh m)).thr.length = total ws := thr_len ws _ _ (Nat.le_refl _)
          obtain ⟨x, hx⟩ : ∃ x, (flowF ws (setR s jh m)).thr[n]? = some x := ⟨_, List.getElem?_eq_getElem (by have := lt_total HP.out; omega)⟩
          have hop : sendP ws s want n jh m = decide (want ≤ x) := by unfold sendP; rw [List.getD_eq_getElem?_getD, hx]; rfl
          have HOP := Lib.hid hop
          obtain ⟨U4, d4, rfl, -⟩ := q1.form
          obtain ⟨U5, d5, rfl, -⟩ := q2.form
          have R5 := Lib.hid (q1.rr EI (by rw [hl1]; have := HT.out; show total ws ≤ 1000000000000000; omega))
          obtain ⟨L, hL⟩ : ∃ L, (flowF ws (setR s jh m)).lost = L := ⟨_, rfl⟩
          obtain ⟨m5, hm5⟩ : ∃ L, (tailsL ws (setR s jh m)).length = L := ⟨_, rfl⟩
          rw [hl1] at R5 ⊢
          rw [hL, hm5]
          obtain ⟨bf, of, rfl, -, q5⟩ := R5.out.int hx
          have fl := fl_field0 (some ⟨bf, of, none⟩) U5 (total ws) d4 m5 d5 L w5
          have hnt0 : (n : Int) < (total ws : Int) := by have := lt_total HP.out; omega
          clear q1 q2 b5 hl1 hx hop hL hm5 a0 a1 a2 a3 y0
          by_cases hwx : want ≤ x
          · have HPR : Hid (sendP ws s want n jh m = true) := Lib.hid (by rw [HOP.out]; exact decide_eq_true hwx)
            go_wp2_with fail
            go_roundw
            case rel => exact ⟨lo, m, rfl, rfl, hm1, by omega, HPL.out, fun _ => HPR.out, S5.out, N5.out, _, O5.out⟩
            case measure => show (m : Int).toNat - (lo : Int).toNat < (hi : Int).toNat - (lo : Int).toNat; omega
          · have HPR : Hid (sendP ws s want n jh m = false) := Lib.hid (by rw [HOP.out]; exact decide_eq_false hwx)
            go_wp2_with fail
            go_roundw
            case rel => exact ⟨m + 1, hi, by go_num, rfl, by omega, hhi, fun _ => HPR.out, HPH.out, S5.out, N5.out, _, O5.out⟩
            case measure => show (hi : Int).toNat - ((m : Int) + 1).toNat < (hi : Int).toNat - (lo : Int).toNat; omega
        · have hlh0 : (hi : Int) ≤ (lo : Int) := by omega
          obtain rfl : lo = hi := by omega
          by_cases hg : 1048576 < lo
          · have hg0 : (1048576 : Int) < (lo : Int) := by omega
            go_wp2_with fail
            refine bodyPost_ret (results_tmp2 rfl _ _ _) rfl ?_
            exact ⟨0, 5, rfl, fun h => absurd rfl h, fun _ => by
              rw [Int.toNat_natCast, HJ.out]
              exact ⟨lo, hhi, HPL.out, HPH.out, by rw [if_pos hg], by rw [if_pos hg]⟩, S.out.bel⟩
          · have hg0 : (lo : Int) ≤ 1048576 := by omega
            go_wp2_with fail
            refine bodyPost_ret (results_tmp2 rfl _ _ _) rfl ?_
            exact ⟨lo, 0, rfl, fun h => absurd rfl h, fun _ => by
              rw [Int.toNat_natCast, HJ.out]
              exact ⟨lo, hhi, HPL.out, HPH.out, by rw [if_neg hg], by rw [if_neg hg]⟩, S.out.bel⟩
end Go.Proofs.Ytkoacclbempmdaa
