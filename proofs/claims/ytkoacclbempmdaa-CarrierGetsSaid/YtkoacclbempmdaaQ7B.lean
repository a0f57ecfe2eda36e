/- The law CarrierGets (promise 2.14): for all works, water, an ID, a wish and a number, with the board of Open at least so much flows, with a lower one less; with the River of Send, and more, at least so much, with less less; and a higher board of the outlet gives it no less, and those behind it on its carrier no more; it returns true for every argument, and leaves them as they read.
   Conditions: none beyond the given row's own (the program at the commit in COMMIT; arguments that lie in memory as the row says). -/
import Derived.Test.YtkoacclbempmdaaQ7A
import Derived.Test.YtkoacclbempmdaaGZL
namespace Go.Proofs.Ytkoacclbempmdaa
open Go.RowKit

/-- What Open says if it finds a board. -/
theorem LowIs.found {n : Nat} {pr : Nat → Bool} {a : Int} (h : LowIs n pr a 0) : ∃ k : Nat, a = k ∧ k ≤ n ∧ pr k = true ∧ (0 < k → pr (k - 1) = false) := by
  obtain ⟨k, h1, h2, h3, h4, h5⟩ := h
  by_cases e : n < k
  · rw [if_pos e] at h5
    omega
  · rw [if_neg e] at h4
    exact ⟨k, h4, by omega, h3 (by omega), h2⟩
theorem WishAt.nat {ws : Wk} {s : Wa} {id want i : Int} {n : Nat} (h : WishAt ws s id want i 0) (hf : FstIs (fun o : Ou => o.id) (outs ws) id n) : i = n := by
  obtain ⟨-, -, -, m, p, rfl, hm, -⟩ := h.ok
  exact hm.unique hf
set_option maxHeartbeats 16000000 in
set_option maxRecDepth 1000000 in
theorem gets_law (A : Option Addr) (c : Nat) (wv : Value) (ws : Wk) (s : Wa) (id want by_ : Int) (w : World) (h : RK w.heap.size (.slice A ws.length c) ws w) (hs : RWa w.heap.size wv s w) (hb0 : 0 ≤ by_) (hb1 : by_ ≤ 65535) :
    Calls Try.prog 6 #[.agg #[.slice A ws.length c], wv, .int .i64 id, .int .i64 want, .int .u16 by_] w fun e w' => e = .returned (.bool true) ∧ Below w.heap.size w w' := by
  obtain ⟨A1, c1, A2, c2, A3, c3, A4, c4, rfl⟩ := hs.form
  have H := Lib.hid h
  have HS := Lib.hid hs
  have S := Lib.hid (WW.new w (.slice A ws.length c) (.slice A1 s.river.length c1) (.slice A2 s.boards.length c2) (.slice A3 s.leaks.length c3) (.slice A4 s.losses.length c4))
  clear h hs
  go_enter Try.func6, Try.ntmps6
  have xx0 := S.out.wk
  go_wp2_with fail
  refine (few_any A ws.length c ws _ (H.out.up S.out.bel.size S.out.bel)).mono ?_
  rintro e wc1 ⟨b, rfl, hfew, bb⟩
  replace S := Lib.hid (S.out.below bb)
  clear bb xx0
  cases b
  · clear hfew
    go_wp2_with fail
    refine (sanity_any _).mono ?_
    rintro e wz ⟨rfl, bz⟩
    have SZ := Lib.hid (S.out.below bz)
    clear bz
    go_wp2_with fail
    go_ret
    exact ⟨rfl, SZ.out.bel⟩
  have HT : Hid (total ws ≤ 90 ∧ ws.length ≤ 30) := Lib.hid (by have := hfew (by trivial); have h1 := this.1; have h2 := this.2.1; omega)
  clear hfew
  have xx0 := S.out.r
  have xx1 := S.out.b
  have xx2 := S.out.k
  have xx3 := S.out.l
  go_wp2_with fail
  refine (wet_any _ s _ (HS.out.up S.out.bel.size S.out.bel)).mono ?_
  rintro e wc2 ⟨b, rfl, -, bb⟩
  replace S := Lib.hid (S.out.below bb)
  clear bb xx0 xx1 xx2 xx3
  cases b
  · skip
    go_wp2_with fail
    refine (sanity_any _).mono ?_
    rintro e wz ⟨rfl, bz⟩
    have SZ := Lib.hid (S.out.below bz)
    clear bz
    go_wp2_with fail
    go_ret
    exact ⟨rfl, SZ.out.bel⟩
  obtain ⟨ds, hds⟩ := WatIs.exists_ ws s
  have HDS := Lib.hid hds
  clear hds
  have xx0 := S.out.wk
  have xx1 := S.out.r
  have xx2 := S.out.b
  have xx3 := S.out.k
  have xx4 := S.out.l
  go_wp2_with fail
  refine (CheckWater_any _ _ ws s ds _ (H.out.up S.out.bel.size S.out.bel) (by have := HT.out; omega) (HS.out.up S.out.bel.size S.out.bel) HDS.out).mono ?_
  rintro e wc3 ⟨rfl, bb⟩
  replace S := Lib.hid (S.out.below bb)
  clear bb xx0 xx1 xx2 xx3 xx4
  by_cases hd0 : ds = 0
  rotate_left
  · have hdb : (ds != 0) = true := by rw [bne_iff_ne]; exact hd0
    go_wp2_with fail
    refine (sanity_any _).mono ?_
    rintro e wz ⟨rfl, bz⟩
    have SZ := Lib.hid (S.out.below bz)
    clear bz
    go_wp2_with fail
    go_ret
    exact ⟨rfl, SZ.out.bel⟩
  subst hd0
  obtain ⟨r, hr⟩ := FstIs.exists_ (fun o : Ou => o.id) (outs ws) id
  have HR := Lib.hid hr
  clear hr
  have xx0 := S.out.wk
  go_wp2_with fail
  refine (place_any A c ws id r _ (H.out.up S.out.bel.size S.out.bel) (by have := HT.out; omega) (by have := HT.out; omega) HR.out).mono ?_
  rintro e wc4 ⟨rfl, bb⟩
  replace S := Lib.hid (S.out.below bb)
  clear bb xx0
  by_cases hr0 : r < 0
  · skip
    go_wp2_with fail
    refine (sanity_any _).mono ?_
    rintro e wz ⟨rfl, bz⟩
    have SZ := Lib.hid (S.out.below bz)
    clear bz
    go_wp2_with fail
    go_ret
    exact ⟨rfl, SZ.out.bel⟩
  obtain ⟨n, rfl⟩ : ∃ n : Nat, r = n := ⟨r.toNat, by omega⟩
  obtain ⟨p, hp⟩ : ∃ p, (allP ws)[n]? = some p := by
    rcases HR.out with ⟨k, o, h1, -, -, h4⟩ | ⟨-, h4⟩
    · obtain rfl : n = k := by omega
      exact at_total (by have := (List.getElem?_eq_some_iff.1 h1).1; rwa [outs_len] at this)
    · omega
  have HP := Lib.hid hp
  have HW := Lib.hid HDS.out.ok.1
  have HOS := Lib.hid HDS.out.ok.2
  have HID := Lib.hid (fst_id HR.out hp)
  have HWF : Hid ((Lit.int .i64 id).wf = true) := Lib.hid (by rw [← HID.out]; exact id_wf HW.out HP.out)
  obtain ⟨i, d, hwd⟩ := WishAt.exists_ ws s id want
  have HWD := Lib.hid hwd
  have HCK : Hid (CheckIs ws 0) := Lib.hid (by rcases HDS.out with ⟨_, h⟩ | ⟨_, _, h⟩ | ⟨h, _, _⟩ <;> first | exact h | exact absurd rfl h | omega)
  clear hp hwd hr0
  have xx0 := S.out.wk
  have xx1 := S.out.r
  have xx2 := S.out.b
  have xx3 := S.out.k
  have xx4 := S.out.l
  go_wp2_with fail
  refine (Open_any _ _ ws s id want i d _ (H.out.up S.out.bel.size S.out.bel) (by have := HT.out; omega) (HS.out.up S.out.bel.size S.out.bel) HWD.out).mono ?_
  rintro e wc5 ⟨a, r, rfl, ho1, ho2, bb⟩
  replace S := Lib.hid (S.out.below bb)
  clear bb xx0 xx1 xx2 xx3 xx4
  have HA : Hid (r = 0 → ∃ k : Nat, a = k ∧ k < p.o.ps.length ∧ want ≤ (flowF ws (setB s n k)).thr.getD n 0 ∧ (0 < k → ¬ want ≤ (flowF ws (setB s n ((k - 1 : Nat) : Int))).thr.getD n 0)) := Lib.hid (fun hr => by
    have hd : d = 0 := by by_cases h : d = 0; exact h; exact absurd ((ho1 h).2.symm.trans hr) h
    subst hd
    have hi := HWD.out.nat HR.out
    subst hi
    have := ho2 rfl p (by rw [Int.toNat_natCast]; exact HP.out)
    rw [Int.toNat_natCast, hr] at this
    obtain ⟨k, e1, e2, e3, e4⟩ := this.found
    have hpl := (HW.out.ou HP.out).pl
    unfold openP at e3 e4
    rw [decide_eq_true_iff] at e3
    exact ⟨k, e1, by omega, e3, fun h0 => by have := e4 h0; rwa [decide_eq_false_iff_not] at this⟩)
  clear ho1 ho2
  have HBL : Hid (n < s.boards.length ∧ s.boards.length ≤ 1000) := Lib.hid (by have := HOS.out.b; have := HT.out; have := lt_total HP.out; omega)
  go_upto_region 7 with fail
  go_cut [86] (fun x wx => x = .bool false ∧ WW w (.slice A ws.length c) (.slice A1 s.river.length c1) (.slice A2 s.boards.length c2) (.slice A3 s.leaks.length c3) (.slice A4 s.losses.length c4) wx)
  case first =>
    have x0 := S.out.wk
    have x1 := S.out.r
    have x2 := S.out.b
    have x3 := S.out.k
    have x4 := S.out.l
    by_cases hr : r = 0
    rotate_left
    · as_aux_lemma =>
        have hrb : (r == 0) = false := by rw [beq_eq_false_iff_ne]; exact hr
        refine wp_region_held_drew (S := BelS wc5) (by kernel_rfl) (BelS.drew0 _) (fun J0 => ?_)
        refine tw 0 58 J0 ?_ (hy := by intro w' hSw; have q0 := hSw.c x0; have q1 := hSw.c x1; have q2 := hSw.c x2; have q3 := hSw.c x3; have q4 := hSw.c x4; go_simp; try with_reducible rfl)
        try simp only [aS]
        refine tw 1 59 J0 ?_ (hy := by intro w' hSw; have q0 := hSw.c x0; have q1 := hSw.c x1; have q2 := hSw.c x2; have q3 := hSw.c x3; have q4 := hSw.c x4; go_simp; try with_reducible rfl)
        try simp only [aS]
        refine tw 2 60 J0 ?_ (hy := by intro w' hSw; have q0 := hSw.c x0; have q1 := hSw.c x1; have q2 := hSw.c x2; have q3 := hSw.c x3; have q4 := hSw.c x4; go_simp; try with_reducible rfl)
        try simp only [aS]
        refine sw 3 61 J0 ?_
        try simp only [aS]
        refine sw 4 62 J0 ?_
        try simp only [aS]
        refine sw 5 63 J0 ?_
        try simp only [aS]
        refine sw 6 64 J0 ?_
        try simp only [aS]
        refine sw 7 65 J0 ?_
        try simp only [aS]
        refine sw 8 66 J0 ?_
        try simp only [aS]
        refine sw 9 67 J0 ?_
        try simp only [aS]
        refine sw 10 68 J0 ?_
        try simp only [aS]
        refine sw 11 69 J0 ?_
        try simp only [aS]
        refine sw 12 70 J0 ?_
        try simp only [aS]
        refine sw 13 71 J0 ?_
        try simp only [aS]
        refine sw 14 72 J0 ?_
        try simp only [aS]
        refine sw 15 73 J0 ?_
        try simp only [aS]
        refine sw 16 74 J0 ?_
        try simp only [aS]
        refine sw 17 75 J0 ?_
        try simp only [aS]
        refine sw 18 76 J0 ?_
        try simp only [aS]
        refine sw 19 77 J0 ?_
        try simp only [aS]
        refine sw 20 78 J0 ?_
        try simp only [aS]
        refine sw 21 79 J0 ?_
        try simp only [aS]
        refine sw 22 80 J0 ?_
        try simp only [aS]
        refine sw 23 81 J0 ?_
        try simp only [aS]
        refine sw 24 82 J0 ?_
        try simp only [aS]
        refine sw 25 83 J0 ?_
        try simp only [aS]
        refine sw 26 84 J0 ?_
        try simp only [aS]
        refine sw 27 85 J0 ?_
        try simp only [aS]
        refine tw 28 86 J0 ?_ (hy := by intro w' hSw; have q0 := hSw.c x0; have q1 := hSw.c x1; have q2 := hSw.c x2; have q3 := hSw.c x3; have q4 := hSw.c x4; go_simp; try with_reducible rfl)
        try simp only [aS]
        refine wpAnyH_done (by kernel_rfl) ?_ _
        have BE := Lib.hid (S.out.below (BelS.b J0))
        clear x0 x1 x2 x3 x4
        go_wp2_with fail
        go_meet
        case rel => exact ⟨by first | rfl | (simp only [Value.bool.injEq, decide_eq_false_iff_not]; assumption) | simp_all, BE.out⟩
    · obtain ⟨k, rfl, hk0, hk1, hk2⟩ := HA.out hr
      subst hr
      obtain ⟨f, hf⟩ : ∃ f, (flowF ws (setB s n k)).thr.getD n 0 = f := ⟨_, rfl⟩
      have HK0 := Lib.hid hk0
      have hkk : (k : Int) ≤ 1000 := by have := (HW.out.ou HP.out).pu; omega
      rw [hf] at hk1
      have hlt : ¬ f < want := by omega
      have HF := Lib.hid hf
      clear hf hk0
      by_cases hk : 0 < k
      · as_aux_lemma =>
          obtain ⟨f2, hf2⟩ : ∃ f, (flowF ws (setB s n ((k - 1 : Nat) : Int))).thr.getD n 0 = f := ⟨_, rfl⟩
          have hn2 := hk2 hk
          rw [hf2] at hn2
          have hkz : (0 : Int) < (k : Int) := by omega
          have HF2 := Lib.hid hf2
          have hw1 : IntKind.i64.wrap ((k : Int) - 1) = ((k - 1 : Nat) : Int) := by rw [show ((k - 1 : Nat) : Int) = (k : Int) - 1 by omega]; exact IntWalk.i64_in _ (by omega)
          clear hf2 hk2
          refine wp_region_held_drew (S := BelS wc5) (by kernel_rfl) (BelS.drew0 _) (fun J0 => ?_)
          refine tw 0 58 J0 ?_ (hy := by intro w' hSw; have q0 := hSw.c x0; have q1 := hSw.c x1; have q2 := hSw.c x2; have q3 := hSw.c x3; have q4 := hSw.c x4; go_simp; try with_reducible rfl)
          try simp only [aS]
          refine tw 1 59 J0 ?_ (hy := by intro w' hSw; have q0 := hSw.c x0; have q1 := hSw.c x1; have q2 := hSw.c x2; have q3 := hSw.c x3; have q4 := hSw.c x4; go_simp; try with_reducible rfl)
          try simp only [aS]
          refine tw 2 60 J0 ?_ (hy := by intro w' hSw; have q0 := hSw.c x0; have q1 := hSw.c x1; have q2 := hSw.c x2; have q3 := hSw.c x3; have q4 := hSw.c x4; go_simp; try with_reducible rfl)
          try simp only [aS]
          refine tw 3 61 J0 ?_ (hy := by intro w' hSw; have q0 := hSw.c x0; have q1 := hSw.c x1; have q2 := hSw.c x2; have q3 := hSw.c x3; have q4 := hSw.c x4; go_simp; try with_reducible rfl)
          try simp only [aS]
          refine tw 4 62 J0 ?_ (hy := by intro w' hSw; have q0 := hSw.c x0; have q1 := hSw.c x1; have q2 := hSw.c x2; have q3 := hSw.c x3; have q4 := hSw.c x4; go_simp; try with_reducible rfl)
          try simp only [aS]
          refine tw 5 63 J0 ?_ (hy := by intro w' hSw; have q0 := hSw.c x0; have q1 := hSw.c x1; have q2 := hSw.c x2; have q3 := hSw.c x3; have q4 := hSw.c x4; go_simp; try with_reducible rfl)
          try simp only [aS]
          refine tw 6 64 J0 ?_ (hy := by intro w' hSw; have q0 := hSw.c x0; have q1 := hSw.c x1; have q2 := hSw.c x2; have q3 := hSw.c x3; have q4 := hSw.c x4; go_simp; try with_reducible rfl)
          try simp only [aS]
          refine tw 8 66 J0 ?_ (hy := by intro w' hSw; have q0 := hSw.c x0; have q1 := hSw.c x1; have q2 := hSw.c x2; have q3 := hSw.c x3; have q4 := hSw.c x4; go_simp; try with_reducible rfl)
          try simp only [aS]
          refine tw 10 68 J0 ?_ (hy := by intro w' hSw; have q0 := hSw.c x0; have q1 := hSw.c x1; have q2 := hSw.c x2; have q3 := hSw.c x3; have q4 := hSw.c x4; go_simp; try with_reducible rfl)
          try simp only [aS]
          refine wpAnyH_ready (rs := [7]) (by kernel_rfl) (by simp) ?_
          refine AllReadyH.cons rfl (fun K hK => ?_) AllReadyH.nil
          go_simp
          refine (boarded_any _ s n k _ (HS.out.up (S.out.bel.trans ((BelS.b J0).mono S.out.bel.size)).size (S.out.bel.trans ((BelS.b J0).mono S.out.bel.size))) HBL.out.1 HBL.out.2).mono ?_
          rintro e wq1 ⟨vb1, rfl, hvb1, hq1⟩
          have J1 := J0.below hq1
          clear hq1
          refine hK.out _ _ J1 (fun _ => ?_)
          clear hK K
          try simp only [aS]
          refine wpAnyH_ready (rs := [9]) (by kernel_rfl) (by simp) ?_
          refine AllReadyH.cons rfl (fun K hK => ?_) AllReadyH.nil
          go_simp
          refine (flowing_any _ _ ws (setB s n k) n _ (H.out.up (S.out.bel.trans ((BelS.b J1).mono S.out.bel.size)).size (S.out.bel.trans ((BelS.b J1).mono S.out.bel.size))) (by have := HT.out; omega) hvb1 (.inr (.inr ⟨HCK.out, setB_ok HOS.out HP.out (by omega) (by have := HK0.out; omega), rfl⟩)) (lt_total HP.out)).mono ?_
          rintro e wq2 ⟨rfl, hq2⟩
          have J2 := J1.below hq2
          rw [HF.out]
          clear hq2
          refine hK.out _ _ J2 (fun _ => ?_)
          clear hK K
          try simp only [aS]
          refine tw 11 69 J2 ?_ (hy := by intro w' hSw; have q0 := hSw.c x0; have q1 := hSw.c x1; have q2 := hSw.c x2; have q3 := hSw.c x3; have q4 := hSw.c x4; go_simp; try with_reducible rfl)
          try simp only [aS]
          refine tw 12 70 J2 ?_ (hy := by intro w' hSw; have q0 := hSw.c x0; have q1 := hSw.c x1; have q2 := hSw.c x2; have q3 := hSw.c x3; have q4 := hSw.c x4; go_simp; try with_reducible rfl)
          try simp only [aS]
          refine tw 13 71 J2 ?_ (hy := by intro w' hSw; have q0 := hSw.c x0; have q1 := hSw.c x1; have q2 := hSw.c x2; have q3 := hSw.c x3; have q4 := hSw.c x4; go_simp; try with_reducible rfl)
          try simp only [aS]
          refine tw 14 72 J2 ?_ (hy := by intro w' hSw; have q0 := hSw.c x0; have q1 := hSw.c x1; have q2 := hSw.c x2; have q3 := hSw.c x3; have q4 := hSw.c x4; go_simp; try with_reducible rfl)
          try simp only [aS]
          refine tw 15 73 J2 ?_ (hy := by intro w' hSw; have q0 := hSw.c x0; have q1 := hSw.c x1; have q2 := hSw.c x2; have q3 := hSw.c x3; have q4 := hSw.c x4; go_simp; try with_reducible rfl)
          try simp only [aS]
          refine tw 16 74 J2 ?_ (hy := by intro w' hSw; have q0 := hSw.c x0; have q1 := hSw.c x1; have q2 := hSw.c x2; have q3 := hSw.c x3; have q4 := hSw.c x4; go_simp; try with_reducible rfl)
          try simp only [aS]
          refine tw 17 75 J2 ?_ (hy := by intro w' hSw; have q0 := hSw.c x0; have q1 := hSw.c x1; have q2 := hSw.c x2; have q3 := hSw.c x3; have q4 := hSw.c x4; go_simp; try with_reducible rfl)
          try simp only [aS]
          refine tw 18 76 J2 ?_ (hy := by intro w' hSw; have q0 := hSw.c x0; have q1 := hSw.c x1; have q2 := hSw.c x2; have q3 := hSw.c x3; have q4 := hSw.c x4; go_simp; try with_reducible rfl)
          try simp only [aS]
          refine tw 19 77 J2 ?_ (hy := by intro w' hSw; have q0 := hSw.c x0; have q1 := hSw.c x1; have q2 := hSw.c x2; have q3 := hSw.c x3; have q4 := hSw.c x4; go_simp; try with_reducible rfl)
          try simp only [aS]
          refine tw 20 78 J2 ?_ (hy := by intro w' hSw; have q0 := hSw.c x0; have q1 := hSw.c x1; have q2 := hSw.c x2; have q3 := hSw.c x3; have q4 := hSw.c x4; go_simp; try with_reducible rfl)
          try simp only [aS]
          refine tw 22 80 J2 ?_ (hy := by intro w' hSw; have q0 := hSw.c x0; have q1 := hSw.c x1; have q2 := hSw.c x2; have q3 := hSw.c x3; have q4 := hSw.c x4; go_simp; try with_reducible rfl)
          try simp only [aS]
          refine tw 24 82 J2 ?_ (hy := by intro w' hSw; have q0 := hSw.c x0; have q1 := hSw.c x1; have q2 := hSw.c x2; have q3 := hSw.c x3; have q4 := hSw.c x4; go_simp; try with_reducible rfl)
          try simp only [aS]
          refine wpAnyH_ready (rs := [21]) (by kernel_rfl) (by simp) ?_
          refine AllReadyH.cons rfl (fun K hK => ?_) AllReadyH.nil
          go_simp
          refine (boarded_any _ s n ((k - 1 : Nat) : Int) _ (HS.out.up (S.out.bel.trans ((BelS.b J2).mono S.out.bel.size)).size (S.out.bel.trans ((BelS.b J2).mono S.out.bel.size))) HBL.out.1 HBL.out.2).mono ?_
          rintro e wq3 ⟨vb2, rfl, hvb2, hq3⟩
          have J3 := J2.below hq3
          clear hq3
          refine hK.out _ _ J3 (fun _ => ?_)
          clear hK K
          try simp only [aS]
          refine wpAnyH_ready (rs := [23]) (by kernel_rfl) (by simp) ?_
          refine AllReadyH.cons rfl (fun K hK => ?_) AllReadyH.nil
          go_simp
          refine (flowing_any _ _ ws (setB s n ((k - 1 : Nat) : Int)) n _ (H.out.up (S.out.bel.trans ((BelS.b J3).mono S.out.bel.size)).size (S.out.bel.trans ((BelS.b J3).mono S.out.bel.size))) (by have := HT.out; omega) hvb2 (.inr (.inr ⟨HCK.out, setB_ok HOS.out HP.out (by omega) (by have := HK0.out; omega), rfl⟩)) (lt_total HP.out)).mono ?_
          rintro e wq4 ⟨rfl, hq4⟩
          have J4 := J3.below hq4
          rw [HF2.out]
          clear hq4
          refine hK.out _ _ J4 (fun _ => ?_)
          clear hK K
          try simp only [aS]
          refine tw 25 83 J4 ?_ (hy := by intro w' hSw; have q0 := hSw.c x0; have q1 := hSw.c x1; have q2 := hSw.c x2; have q3 := hSw.c x3; have q4 := hSw.c x4; go_simp; try with_reducible rfl)
          try simp only [aS]
          refine tw 26 84 J4 ?_ (hy := by intro w' hSw; have q0 := hSw.c x0; have q1 := hSw.c x1; have q2 := hSw.c x2; have q3 := hSw.c x3; have q4 := hSw.c x4; go_simp; try with_reducible rfl)
          try simp only [aS]
          refine tw 27 85 J4 ?_ (hy := by intro w' hSw; have q0 := hSw.c x0; have q1 := hSw.c x1; have q2 := hSw.c x2; have q3 := hSw.c x3; have q4 := hSw.c x4; go_simp; try with_reducible rfl)
          try simp only [aS]
          refine tw 28 86 J4 ?_ (hy := by intro w' hSw; have q0 := hSw.c x0; have q1 := hSw.c x1; have q2 := hSw.c x2; have q3 := hSw.c x3; have q4 := hSw.c x4; go_simp; try with_reducible rfl)
          try simp only [aS]
          refine wpAnyH_done (by kernel_rfl) ?_ _
          have BE := Lib.hid (S.out.below (BelS.b J4))
          clear x0 x1 x2 x3 x4
          go_wp2_with fail
          go_meet
          case rel => exact ⟨by first | rfl | (simp only [Value.bool.injEq, decide_eq_false_iff_not]; assumption) | simp_all, BE.out⟩
      · as_aux_lemma =>
          have hkz : ¬ (0 : Int) < (k : Int) := by omega
          refine wp_region_held_drew (S := BelS wc5) (by kernel_rfl) (BelS.drew0 _) (fun J0 => ?_)
          refine tw 0 58 J0 ?_ (hy := by intro w' hSw; have q0 := hSw.c x0; have q1 := hSw.c x1; have q2 := hSw.c x2; have q3 := hSw.c x3; have q4 := hSw.c x4; go_simp; try with_reducible rfl)
          try simp only [aS]
          refine tw 1 59 J0 ?_ (hy := by intro w' hSw; have q0 := hSw.c x0; have q1 := hSw.c x1; have q2 := hSw.c x2; have q3 := hSw.c x3; have q4 := hSw.c x4; go_simp; try with_reducible rfl)
          try simp only [aS]
          refine tw 2 60 J0 ?_ (hy := by intro w' hSw; have q0 := hSw.c x0; have q1 := hSw.c x1; have q2 := hSw.c x2; have q3 := hSw.c x3; have q4 := hSw.c x4; go_simp; try with_reducible rfl)
          try simp only [aS]
          refine tw 3 61 J0 ?_ (hy := by intro w' hSw; have q0 := hSw.c x0; have q1 := hSw.c x1; have q2 := hSw.c x2; have q3 := hSw.c x3; have q4 := hSw.c x4; go_simp; try with_reducible rfl)
          try simp only [aS]
          refine tw 4 62 J0 ?_ (hy := by intro w' hSw; have q0 := hSw.c x0; have q1 := hSw.c x1; have q2 := hSw.c x2; have q3 := hSw.c x3; have q4 := hSw.c x4; go_simp; try with_reducible rfl)
          try simp only [aS]
          refine tw 5 63 J0 ?_ (hy := by intro w' hSw; have q0 := hSw.c x0; have q1 := hSw.c x1; have q2 := hSw.c x2; have q3 := hSw.c x3; have q4 := hSw.c x4; go_simp; try with_reducible rfl)
          try simp only [aS]
          refine tw 6 64 J0 ?_ (hy := by intro w' hSw; have q0 := hSw.c x0; have q1 := hSw.c x1; have q2 := hSw.c x2; have q3 := hSw.c x3; have q4 := hSw.c x4; go_simp; try with_reducible rfl)
          try simp only [aS]
          refine tw 8 66 J0 ?_ (hy := by intro w' hSw; have q0 := hSw.c x0; have q1 := hSw.c x1; have q2 := hSw.c x2; have q3 := hSw.c x3; have q4 := hSw.c x4; go_simp; try with_reducible rfl)
          try simp only [aS]
          refine tw 10 68 J0 ?_ (hy := by intro w' hSw; have q0 := hSw.c x0; have q1 := hSw.c x1; have q2 := hSw.c x2; have q3 := hSw.c x3; have q4 := hSw.c x4; go_simp; try with_reducible rfl)
          try simp only [aS]
          refine wpAnyH_ready (rs := [7]) (by kernel_rfl) (by simp) ?_
          refine AllReadyH.cons rfl (fun K hK => ?_) AllReadyH.nil
          go_simp
          refine (boarded_any _ s n k _ (HS.out.up (S.out.bel.trans ((BelS.b J0).mono S.out.bel.size)).size (S.out.bel.trans ((BelS.b J0).mono S.out.bel.size))) HBL.out.1 HBL.out.2).mono ?_
          rintro e wq1 ⟨vb1, rfl, hvb1, hq1⟩
          have J1 := J0.below hq1
          clear hq1
          refine hK.out _ _ J1 (fun _ => ?_)
          clear hK K
          try simp only [aS]
          refine wpAnyH_ready (rs := [9]) (by kernel_rfl) (by simp) ?_
          refine AllReadyH.cons rfl (fun K hK => ?_) AllReadyH.nil
          go_simp
          refine (flowing_any _ _ ws (setB s n k) n _ (H.out.up (S.out.bel.trans ((BelS.b J1).mono S.out.bel.size)).size (S.out.bel.trans ((BelS.b J1).mono S.out.bel.size))) (by have := HT.out; omega) hvb1 (.inr (.inr ⟨HCK.out, setB_ok HOS.out HP.out (by omega) (by have := HK0.out; omega), rfl⟩)) (lt_total HP.out)).mono ?_
          rintro e wq2 ⟨rfl, hq2⟩
          have J2 := J1.below hq2
          rw [HF.out]
          clear hq2
          refine hK.out _ _ J2 (fun _ => ?_)
          clear hK K
          try simp only [aS]
          refine tw 11 69 J2 ?_ (hy := by intro w' hSw; have q0 := hSw.c x0; have q1 := hSw.c x1; have q2 := hSw.c x2; have q3 := hSw.c x3; have q4 := hSw.c x4; go_simp; try with_reducible rfl)
          try simp only [aS]
          refine tw 12 70 J2 ?_ (hy := by intro w' hSw; have q0 := hSw.c x0; have q1 := hSw.c x1; have q2 := hSw.c x2; have q3 := hSw.c x3; have q4 := hSw.c x4; go_simp; try with_reducible rfl)
          try simp only [aS]
          refine tw 13 71 J2 ?_ (hy := by intro w' hSw; have q0 := hSw.c x0; have q1 := hSw.c x1; have q2 := hSw.c x2; have q3 := hSw.c x3; have q4 := hSw.c x4; go_simp; try with_reducible rfl)
          try simp only [aS]
          refine tw 14 72 J2 ?_ (hy := by intro w' hSw; have q0 := hSw.c x0; have q1 := hSw.c x1; have q2 := hSw.c x2; have q3 := hSw.c x3; have q4 := hSw.c x4; go_simp; try with_reducible rfl)
          try simp only [aS]
          refine tw 15 73 J2 ?_ (hy := by intro w' hSw; have q0 := hSw.c x0; have q1 := hSw.c x1; have q2 := hSw.c x2; have q3 := hSw.c x3; have q4 := hSw.c x4; go_simp; try with_reducible rfl)
          try simp only [aS]
          refine sw 16 74 J2 ?_
          try simp only [aS]
          refine sw 17 75 J2 ?_
          try simp only [aS]
          refine sw 18 76 J2 ?_
          try simp only [aS]
          refine sw 19 77 J2 ?_
          try simp only [aS]
          refine sw 20 78 J2 ?_
          try simp only [aS]
          refine sw 21 79 J2 ?_
          try simp only [aS]
          refine sw 22 80 J2 ?_
          try simp only [aS]
          refine sw 23 81 J2 ?_
          try simp only [aS]
          refine sw 24 82 J2 ?_
          try simp only [aS]
          refine sw 25 83 J2 ?_
          try simp only [aS]
          refine tw 26 84 J2 ?_ (hy := by intro w' hSw; have q0 := hSw.c x0; have q1 := hSw.c x1; have q2 := hSw.c x2; have q3 := hSw.c x3; have q4 := hSw.c x4; go_simp; try with_reducible rfl)
          try simp only [aS]
          refine tw 27 85 J2 ?_ (hy := by intro w' hSw; have q0 := hSw.c x0; have q1 := hSw.c x1; have q2 := hSw.c x2; have q3 := hSw.c x3; have q4 := hSw.c x4; go_simp; try with_reducible rfl)
          try simp only [aS]
          refine tw 28 86 J2 ?_ (hy := by intro w' hSw; have q0 := hSw.c x0; have q1 := hSw.c x1; have q2 := hSw.c x2; have q3 := hSw.c x3; have q4 := hSw.c x4; go_simp; try with_reducible rfl)
          try simp only [aS]
          refine wpAnyH_done (by kernel_rfl) ?_ _
          have BE := Lib.hid (S.out.below (BelS.b J2))
          clear x0 x1 x2 x3 x4
          go_wp2_with fail
          go_meet
          case rel => exact ⟨by first | rfl | (simp only [Value.bool.injEq, decide_eq_false_iff_not]; assumption) | simp_all, BE.out⟩
  case rest =>
    obtain ⟨rfl, hS⟩ := hcut
    replace S := Lib.hid hS
    clear hS HA
    have xx0 := S.out.wk
    have xx1 := S.out.r
    have xx2 := S.out.b
    have xx3 := S.out.k
    have xx4 := S.out.l
    go_wp2_with fail
    refine (Send_any _ _ ws s id want i d _ (H.out.up S.out.bel.size S.out.bel) (by have := HT.out; omega) (HS.out.up S.out.bel.size S.out.bel) HWD.out HWF.out).mono ?_
    rintro e wc6 ⟨a2, r2, rfl, ho1, ho2, bb⟩
    replace S := Lib.hid (S.out.below bb)
    clear bb xx0 xx1 xx2 xx3 xx4
    have HA : Hid (r2 = 0 → ∃ k : Nat, a2 = k ∧ k ≤ 1048576 ∧ sendP ws s want n (headAt ws id) k = true ∧ (0 < k → sendP ws s want n (headAt ws id) (k - 1) = false)) := Lib.hid (fun hr => by
      have hd : d = 0 := by by_cases h : d = 0; exact h; exact absurd ((ho1 h).2.symm.trans hr) h
      subst hd
      have hi := HWD.out.nat HR.out
      subst hi
      have := ho2 rfl
      rw [Int.toNat_natCast, hr] at this
      exact this.found)
    clear ho1 ho2
    have HKN : Hid (KnownIs ws id n 0) := Lib.hid (.inr (.inr ⟨HCK.out, HR.out, by omega, rfl⟩))
    have xx0 := S.out.wk
    go_wp2_with fail
    refine (Signs_any _ ws id n 0 _ (H.out.up S.out.bel.size S.out.bel) (by have := HT.out; omega) HKN.out).mono ?_
    rintro e wc7 ⟨u1, u2, u3, rfl, o1, o2, o3, bb⟩
    replace S := Lib.hid (S.out.below bb)
    clear bb xx0
    rw [okL_zero] at o1 o2 o3
    have e1 : (sigH ws id).length = s.river.length := by unfold sigH; rw [List.length_map, HOS.out.r]
    obtain ⟨U1, k1, rfl, -⟩ := o1.form
    obtain ⟨U2, k2, rfl, -⟩ := o2.form
    obtain ⟨U3, k3, rfl, -⟩ := o3.form
    have E1 := Lib.hid e1
    have hrl : s.river.length ≤ 100 := by have h1 := HOS.out.r; have h2 := headsL_len HW.out; have h3 := HT.out; unfold headsL at h2; rw [List.length_map] at h2; have := HW.out.len; omega
    have HRL := Lib.hid hrl
    have R1 := Lib.hid (o1.rr EI (by rw [e1]; show s.river.length ≤ 1000000000000000; omega))
    rw [e1] at R1 ⊢
    have HRP : Hid (0 < s.river.length) := Lib.hid (by have h1 := one_head HW.out HP.out; have h2 := HOS.out.r; have := h1.1; omega)
    obtain ⟨m2, hm2⟩ : ∃ m, (sigO ws id).length = m := ⟨_, rfl⟩
    obtain ⟨m3, hm3⟩ : ∃ m, (sigR ws id).length = m := ⟨_, rfl⟩
    rw [hm2, hm3]
    have HGV : Hid (∀ k : Int, (⟨givT (sigH ws id) s.river k (sigH ws id).length, s.boards, s.leaks, s.losses⟩ : Wa) = setR s (headAt ws id) k) := Lib.hid (fun k => by have := given_setR HW.out (s := s) HP.out k; rwa [HID.out] at this)
    clear o1 o2 o3 e1 hm2 hm3 hrl
    have xx0 := S.out.r
    go_upto_if 114 with fail
    clear xx0
    go_cut [20] (fun _ wx => WW w (.slice A ws.length c) (.slice A1 s.river.length c1) (.slice A2 s.boards.length c2) (.slice A3 s.leaks.length c3) (.slice A4 s.losses.length c4) wx)
    case first =>
      have x0 := S.out.wk
      have x1 := S.out.r
      have x2 := S.out.b
      have x3 := S.out.k
      have x4 := S.out.l
      by_cases hr : r2 = 0
      rotate_left
      · have hrb : (r2 == 0) = false := by rw [beq_eq_false_iff_ne]; exact hr
        go_wp2_with fail
        go_meet
        case rel => exact S.out
      · obtain ⟨k, rfl, hk0, hk1, hk2⟩ := HA.out hr
        subst hr
        have hkk : (k : Int) ≤ 1048576 := by omega
        obtain ⟨M, hM⟩ : ∃ M, min (1048576 : Int) ((k : Int) + by_) = M := ⟨_, rfl⟩
        obtain ⟨m, hm⟩ : ∃ m : Nat, M = m := ⟨M.toNat, by omega⟩
        have hk3 := sendP_mono HW.out HOS.out HP.out (headAt ws id) (k := k) (k' := m) (by omega) (by omega) hk1
        unfold sendP at hk1 hk2 hk3
        rw [decide_eq_true_iff] at hk1 hk3
        obtain ⟨f, hf⟩ : ∃ f, (flowF ws (setR s (headAt ws id) k)).thr.getD n 0 = f := ⟨_, rfl⟩
        obtain ⟨f3, hf3⟩ : ∃ f, (flowF ws (setR s (headAt ws id) m)).thr.getD n 0 = f := ⟨_, rfl⟩
        rw [hf] at hk1
        rw [hf3] at hk3
        have hlt : ¬ f < want := by omega
        have hlt3 : ¬ f3 < want := by omega
        have HF := Lib.hid hf
        have HF3 := Lib.hid hf3
        have HK0 := Lib.hid hk0
        have hm0 : (m : Int) ≤ 1048576 := by omega
        have hm1 : M = (m : Int) := hm
        have HM0 := Lib.hid hm0
        have hme : (if (k : Int) + by_ < 1048576 then (k : Int) + by_ else 1048576) = (m : Int) := by rw [← hm1, ← hM]; split <;> omega
        clear hM hm hm1
        have hwb : IntKind.i64.wrap ((k : Int) + by_) = (k : Int) + by_ := IntWalk.i64_in _ (by omega)
        have hwc : IntKind.i64.wrap by_ = by_ := IntWalk.i64_in _ (by omega)
        clear hf hf3 hk0
        go_upto_region 15 with fail
        try rw [hme]
        by_cases hk : 0 < k
        · as_aux_lemma =>
            obtain ⟨f2, hf2⟩ : ∃ f, (flowF ws (setR s (headAt ws id) ((k - 1 : Nat) : Int))).thr.getD n 0 = f := ⟨_, rfl⟩
            have hn2 := hk2 hk
            rw [hf2, decide_eq_false_iff_not] at hn2
            have hkz : (0 : Int) < (k : Int) := by omega
            have HF2 := Lib.hid hf2
            have hw1 : IntKind.i64.wrap ((k : Int) - 1) = ((k - 1 : Nat) : Int) := by rw [show ((k - 1 : Nat) : Int) = (k : Int) - 1 by omega]; exact IntWalk.i64_in _ (by omega)
            clear hf2 hk2
            refine wp_region_held_drew (S := BelS wc7) (by kernel_rfl) (BelS.drew0 _) (fun J0 => ?_)
            refine tw 0 120 J0 ?_ (hy := by intro w' hSw; have q0 := hSw.c x0; have q1 := hSw.c x1; have q2 := hSw.c x2; have q3 := hSw.c x3; have q4 := hSw.c x4; go_simp; try with_reducible rfl)
            try simp only [aS]
            refine tw 1 121 J0 ?_ (hy := by intro w' hSw; have q0 := hSw.c x0; have q1 := hSw.c x1; have q2 := hSw.c x2; have q3 := hSw.c x3; have q4 := hSw.c x4; go_simp; try with_reducible rfl)
            try simp only [aS]
            refine tw 2 122 J0 ?_ (hy := by intro w' hSw; have q0 := hSw.c x0; have q1 := hSw.c x1; have q2 := hSw.c x2; have q3 := hSw.c x3; have q4 := hSw.c x4; go_simp; try with_reducible rfl)
            try simp only [aS]
            refine tw 3 123 J0 ?_ (hy := by intro w' hSw; have q0 := hSw.c x0; have q1 := hSw.c x1; have q2 := hSw.c x2; have q3 := hSw.c x3; have q4 := hSw.c x4; go_simp; try with_reducible rfl)
            try simp only [aS]
            refine tw 5 125 J0 ?_ (hy := by intro w' hSw; have q0 := hSw.c x0; have q1 := hSw.c x1; have q2 := hSw.c x2; have q3 := hSw.c x3; have q4 := hSw.c x4; go_simp; try with_reducible rfl)
            try simp only [aS]
            refine tw 7 127 J0 ?_ (hy := by intro w' hSw; have q0 := hSw.c x0; have q1 := hSw.c x1; have q2 := hSw.c x2; have q3 := hSw.c x3; have q4 := hSw.c x4; go_simp; try with_reducible rfl)
            try simp only [aS]
            refine wpAnyH_ready (rs := [4]) (by kernel_rfl) (by simp) ?_
            refine AllReadyH.cons rfl (fun K hK => ?_) AllReadyH.nil
            go_simp
            refine (given_any _ (.slice U1 s.river.length k1) s (sigH ws id) k _ (HS.out.up (S.out.bel.trans ((BelS.b J0).mono S.out.bel.size)).size (S.out.bel.trans ((BelS.b J0).mono S.out.bel.size))) (R1.out.up (BelS.b J0).size (BelS.b J0)) HRP.out (by have := HRL.out; omega) E1.out).mono ?_
            rintro e wq1 ⟨vb1, rfl, hvb1, hq1⟩
            have J1 := J0.below hq1
            rw [HGV.out] at hvb1
            clear hq1
            refine hK.out _ _ J1 (fun _ => ?_)
            clear hK K
            try simp only [aS]
            refine wpAnyH_ready (rs := [6]) (by kernel_rfl) (by simp) ?_
            refine AllReadyH.cons rfl (fun K hK => ?_) AllReadyH.nil
            go_simp
            refine (flowing_any _ _ ws (setR s (headAt ws id) k) n _ (H.out.up (S.out.bel.trans ((BelS.b J1).mono S.out.bel.size)).size (S.out.bel.trans ((BelS.b J1).mono S.out.bel.size))) (by have := HT.out; omega) hvb1 (.inr (.inr ⟨HCK.out, setR_ok HOS.out (by omega) (by have := HK0.out; omega), rfl⟩)) (lt_total HP.out)).mono ?_
            rintro e wq2 ⟨rfl, hq2⟩
            have J2 := J1.below hq2
            rw [HF.out]
            clear hq2
            refine hK.out _ _ J2 (fun _ => ?_)
            clear hK K
            try simp only [aS]
            refine tw 8 128 J2 ?_ (hy := by intro w' hSw; have q0 := hSw.c x0; have q1 := hSw.c x1; have q2 := hSw.c x2; have q3 := hSw.c x3; have q4 := hSw.c x4; go_simp; try with_reducible rfl)
            try simp only [aS]
            refine tw 9 129 J2 ?_ (hy := by intro w' hSw; have q0 := hSw.c x0; have q1 := hSw.c x1; have q2 := hSw.c x2; have q3 := hSw.c x3; have q4 := hSw.c x4; go_simp; try with_reducible rfl)
            try simp only [aS]
            refine tw 10 130 J2 ?_ (hy := by intro w' hSw; have q0 := hSw.c x0; have q1 := hSw.c x1; have q2 := hSw.c x2; have q3 := hSw.c x3; have q4 := hSw.c x4; go_simp; try with_reducible rfl)
            try simp only [aS]
            refine tw 11 131 J2 ?_ (hy := by intro w' hSw; have q0 := hSw.c x0; have q1 := hSw.c x1; have q2 := hSw.c x2; have q3 := hSw.c x3; have q4 := hSw.c x4; go_simp; try with_reducible rfl)
            try simp only [aS]
            refine tw 12 132 J2 ?_ (hy := by intro w' hSw; have q0 := hSw.c x0; have q1 := hSw.c x1; have q2 := hSw.c x2; have q3 := hSw.c x3; have q4 := hSw.c x4; go_simp; try with_reducible rfl)
            try simp only [aS]
            refine tw 13 133 J2 ?_ (hy := by intro w' hSw; have q0 := hSw.c x0; have q1 := hSw.c x1; have q2 := hSw.c x2; have q3 := hSw.c x3; have q4 := hSw.c x4; go_simp; try with_reducible rfl)
            try simp only [aS]
            refine tw 15 135 J2 ?_ (hy := by intro w' hSw; have q0 := hSw.c x0; have q1 := hSw.c x1; have q2 := hSw.c x2; have q3 := hSw.c x3; have q4 := hSw.c x4; go_simp; try with_reducible rfl)
            try simp only [aS]
            refine tw 17 137 J2 ?_ (hy := by intro w' hSw; have q0 := hSw.c x0; have q1 := hSw.c x1; have q2 := hSw.c x2; have q3 := hSw.c x3; have q4 := hSw.c x4; go_simp; try with_reducible rfl)
            try simp only [aS]
            refine wpAnyH_ready (rs := [14]) (by kernel_rfl) (by simp) ?_
            refine AllReadyH.cons rfl (fun K hK => ?_) AllReadyH.nil
            go_simp
            refine (given_any _ (.slice U1 s.river.length k1) s (sigH ws id) m _ (HS.out.up (S.out.bel.trans ((BelS.b J2).mono S.out.bel.size)).size (S.out.bel.trans ((BelS.b J2).mono S.out.bel.size))) (R1.out.up (BelS.b J2).size (BelS.b J2)) HRP.out (by have := HRL.out; omega) E1.out).mono ?_
            rintro e wq3 ⟨vb2, rfl, hvb2, hq3⟩
            have J3 := J2.below hq3
            rw [HGV.out] at hvb2
            clear hq3
            refine hK.out _ _ J3 (fun _ => ?_)
            clear hK K
            try simp only [aS]
            refine wpAnyH_ready (rs := [16]) (by kernel_rfl) (by simp) ?_
            refine AllReadyH.cons rfl (fun K hK => ?_) AllReadyH.nil
            go_simp
            refine (flowing_any _ _ ws (setR s (headAt ws id) m) n _ (H.out.up (S.out.bel.trans ((BelS.b J3).mono S.out.bel.size)).size (S.out.bel.trans ((BelS.b J3).mono S.out.bel.size))) (by have := HT.out; omega) hvb2 (.inr (.inr ⟨HCK.out, setR_ok HOS.out (by omega) HM0.out, rfl⟩)) (lt_total HP.out)).mono ?_
            rintro e wq4 ⟨rfl, hq4⟩
            have J4 := J3.below hq4
            rw [HF3.out]
            clear hq4
            refine hK.out _ _ J4 (fun _ => ?_)
            clear hK K
            try simp only [aS]
            refine tw 18 138 J4 ?_ (hy := by intro w' hSw; have q0 := hSw.c x0; have q1 := hSw.c x1; have q2 := hSw.c x2; have q3 := hSw.c x3; have q4 := hSw.c x4; go_simp; try with_reducible rfl)
            try simp only [aS]
            refine tw 19 139 J4 ?_ (hy := by intro w' hSw; have q0 := hSw.c x0; have q1 := hSw.c x1; have q2 := hSw.c x2; have q3 := hSw.c x3; have q4 := hSw.c x4; go_simp; try with_reducible rfl)
            try simp only [aS]
            refine tw 20 140 J4 ?_ (hy := by intro w' hSw; have q0 := hSw.c x0; have q1 := hSw.c x1; have q2 := hSw.c x2; have q3 := hSw.c x3; have q4 := hSw.c x4; go_simp; try with_reducible rfl)
            try simp only [aS]
            refine tw 21 141 J4 ?_ (hy := by intro w' hSw; have q0 := hSw.c x0; have q1 := hSw.c x1; have q2 := hSw.c x2; have q3 := hSw.c x3; have q4 := hSw.c x4; go_simp; try with_reducible rfl)
            try simp only [aS]
            refine tw 22 142 J4 ?_ (hy := by intro w' hSw; have q0 := hSw.c x0; have q1 := hSw.c x1; have q2 := hSw.c x2; have q3 := hSw.c x3; have q4 := hSw.c x4; go_simp; try with_reducible rfl)
            try simp only [aS]
            refine tw 23 143 J4 ?_ (hy := by intro w' hSw; have q0 := hSw.c x0; have q1 := hSw.c x1; have q2 := hSw.c x2; have q3 := hSw.c x3; have q4 := hSw.c x4; go_simp; try with_reducible rfl)
            try simp only [aS]
            refine tw 24 144 J4 ?_ (hy := by intro w' hSw; have q0 := hSw.c x0; have q1 := hSw.c x1; have q2 := hSw.c x2; have q3 := hSw.c x3; have q4 := hSw.c x4; go_simp; try with_reducible rfl)
            try simp only [aS]
            refine tw 25 145 J4 ?_ (hy := by intro w' hSw; have q0 := hSw.c x0; have q1 := hSw.c x1; have q2 := hSw.c x2; have q3 := hSw.c x3; have q4 := hSw.c x4; go_simp; try with_reducible rfl)
            try simp only [aS]
            refine tw 26 146 J4 ?_ (hy := by intro w' hSw; have q0 := hSw.c x0; have q1 := hSw.c x1; have q2 := hSw.c x2; have q3 := hSw.c x3; have q4 := hSw.c x4; go_simp; try with_reducible rfl)
            try simp only [aS]
            refine tw 27 147 J4 ?_ (hy := by intro w' hSw; have q0 := hSw.c x0; have q1 := hSw.c x1; have q2 := hSw.c x2; have q3 := hSw.c x3; have q4 := hSw.c x4; go_simp; try with_reducible rfl)
            try simp only [aS]
            refine tw 28 148 J4 ?_ (hy := by intro w' hSw; have q0 := hSw.c x0; have q1 := hSw.c x1; have q2 := hSw.c x2; have q3 := hSw.c x3; have q4 := hSw.c x4; go_simp; try with_reducible rfl)
            try simp only [aS]
            refine tw 30 150 J4 ?_ (hy := by intro w' hSw; have q0 := hSw.c x0; have q1 := hSw.c x1; have q2 := hSw.c x2; have q3 := hSw.c x3; have q4 := hSw.c x4; go_simp; try with_reducible rfl)
            try simp only [aS]
            refine tw 32 152 J4 ?_ (hy := by intro w' hSw; have q0 := hSw.c x0; have q1 := hSw.c x1; have q2 := hSw.c x2; have q3 := hSw.c x3; have q4 := hSw.c x4; go_simp; try with_reducible rfl)
            try simp only [aS]
            refine wpAnyH_ready (rs := [29]) (by kernel_rfl) (by simp) ?_
            refine AllReadyH.cons rfl (fun K hK => ?_) AllReadyH.nil
            go_simp
            refine (given_any _ (.slice U1 s.river.length k1) s (sigH ws id) ((k - 1 : Nat) : Int) _ (HS.out.up (S.out.bel.trans ((BelS.b J4).mono S.out.bel.size)).size (S.out.bel.trans ((BelS.b J4).mono S.out.bel.size))) (R1.out.up (BelS.b J4).size (BelS.b J4)) HRP.out (by have := HRL.out; omega) E1.out).mono ?_
            rintro e wq5 ⟨vb3, rfl, hvb3, hq5⟩
            have J5 := J4.below hq5
            rw [HGV.out] at hvb3
            clear hq5
            refine hK.out _ _ J5 (fun _ => ?_)
            clear hK K
            try simp only [aS]
            refine wpAnyH_ready (rs := [31]) (by kernel_rfl) (by simp) ?_
            refine AllReadyH.cons rfl (fun K hK => ?_) AllReadyH.nil
            go_simp
            refine (flowing_any _ _ ws (setR s (headAt ws id) ((k - 1 : Nat) : Int)) n _ (H.out.up (S.out.bel.trans ((BelS.b J5).mono S.out.bel.size)).size (S.out.bel.trans ((BelS.b J5).mono S.out.bel.size))) (by have := HT.out; omega) hvb3 (.inr (.inr ⟨HCK.out, setR_ok HOS.out (by omega) (by have := HK0.out; omega), rfl⟩)) (lt_total HP.out)).mono ?_
            rintro e wq6 ⟨rfl, hq6⟩
            have J6 := J5.below hq6
            rw [HF2.out]
            clear hq6
            refine hK.out _ _ J6 (fun _ => ?_)
            clear hK K
            try simp only [aS]
            refine tw 33 153 J6 ?_ (hy := by intro w' hSw; have q0 := hSw.c x0; have q1 := hSw.c x1; have q2 := hSw.c x2; have q3 := hSw.c x3; have q4 := hSw.c x4; go_simp; try with_reducible rfl)
            try simp only [aS]
            refine tw 34 154 J6 ?_ (hy := by intro w' hSw; have q0 := hSw.c x0; have q1 := hSw.c x1; have q2 := hSw.c x2; have q3 := hSw.c x3; have q4 := hSw.c x4; go_simp; try with_reducible rfl)
            try simp only [aS]
            refine tw 35 155 J6 ?_ (hy := by intro w' hSw; have q0 := hSw.c x0; have q1 := hSw.c x1; have q2 := hSw.c x2; have q3 := hSw.c x3; have q4 := hSw.c x4; go_simp; try with_reducible rfl)
            try simp only [aS]
            refine wpAnyH_done (by kernel_rfl) ?_ _
            have BE := Lib.hid (S.out.below (BelS.b J6))
            clear x0 x1 x2 x3 x4
            go_wp2_with fail
            go_meet
            case rel => exact BE.out
        · as_aux_lemma =>
            have hkz : ¬ (0 : Int) < (k : Int) := by omega
            refine wp_region_held_drew (S := BelS wc7) (by kernel_rfl) (BelS.drew0 _) (fun J0 => ?_)
            refine tw 0 120 J0 ?_ (hy := by intro w' hSw; have q0 := hSw.c x0; have q1 := hSw.c x1; have q2 := hSw.c x2; have q3 := hSw.c x3; have q4 := hSw.c x4; go_simp; try with_reducible rfl)
            try simp only [aS]
            refine tw 1 121 J0 ?_ (hy := by intro w' hSw; have q0 := hSw.c x0; have q1 := hSw.c x1; have q2 := hSw.c x2; have q3 := hSw.c x3; have q4 := hSw.c x4; go_simp; try with_reducible rfl)
            try simp only [aS]
            refine tw 2 122 J0 ?_ (hy := by intro w' hSw; have q0 := hSw.c x0; have q1 := hSw.c x1; have q2 := hSw.c x2; have q3 := hSw.c x3; have q4 := hSw.c x4; go_simp; try with_reducible rfl)
            try simp only [aS]
            refine tw 3 123 J0 ?_ (hy := by intro w' hSw; have q0 := hSw.c x0; have q1 := hSw.c x1; have q2 := hSw.c x2; have q3 := hSw.c x3; have q4 := hSw.c x4; go_simp; try with_reducible rfl)
            try simp only [aS]
            refine tw 5 125 J0 ?_ (hy := by intro w' hSw; have q0 := hSw.c x0; have q1 := hSw.c x1; have q2 := hSw.c x2; have q3 := hSw.c x3; have q4 := hSw.c x4; go_simp; try with_reducible rfl)
            try simp only [aS]
            refine tw 7 127 J0 ?_ (hy := by intro w' hSw; have q0 := hSw.c x0; have q1 := hSw.c x1; have q2 := hSw.c x2; have q3 := hSw.c x3; have q4 := hSw.c x4; go_simp; try with_reducible rfl)
            try simp only [aS]
            refine wpAnyH_ready (rs := [4]) (by kernel_rfl) (by simp) ?_
            refine AllReadyH.cons rfl (fun K hK => ?_) AllReadyH.nil
            go_simp
            refine (given_any _ (.slice U1 s.river.length k1) s (sigH ws id) k _ (HS.out.up (S.out.bel.trans ((BelS.b J0).mono S.out.bel.size)).size (S.out.bel.trans ((BelS.b J0).mono S.out.bel.size))) (R1.out.up (BelS.b J0).size (BelS.b J0)) HRP.out (by have := HRL.out; omega) E1.out).mono ?_
            rintro e wq1 ⟨vb1, rfl, hvb1, hq1⟩
            have J1 := J0.below hq1
            rw [HGV.out] at hvb1
            clear hq1
            refine hK.out _ _ J1 (fun _ => ?_)
            clear hK K
            try simp only [aS]
            refine wpAnyH_ready (rs := [6]) (by kernel_rfl) (by simp) ?_
            refine AllReadyH.cons rfl (fun K hK => ?_) AllReadyH.nil
            go_simp
            refine (flowing_any _ _ ws (setR s (headAt ws id) k) n _ (H.out.up (S.out.bel.trans ((BelS.b J1).mono S.out.bel.size)).size (S.out.bel.trans ((BelS.b J1).mono S.out.bel.size))) (by have := HT.out; omega) hvb1 (.inr (.inr ⟨HCK.out, setR_ok HOS.out (by omega) (by have := HK0.out; omega), rfl⟩)) (lt_total HP.out)).mono ?_
            rintro e wq2 ⟨rfl, hq2⟩
            have J2 := J1.below hq2
            rw [HF.out]
            clear hq2
            refine hK.out _ _ J2 (fun _ => ?_)
            clear hK K
            try simp only [aS]
            refine tw 8 128 J2 ?_ (hy := by intro w' hSw; have q0 := hSw.c x0; have q1 := hSw.c x1; have q2 := hSw.c x2; have q3 := hSw.c x3; have q4 := hSw.c x4; go_simp; try with_reducible rfl)
            try simp only [aS]
            refine tw 9 129 J2 ?_ (hy := by intro w' hSw; have q0 := hSw.c x0; have q1 := hSw.c x1; have q2 := hSw.c x2; have q3 := hSw.c x3; have q4 := hSw.c x4; go_simp; try with_reducible rfl)
            try simp only [aS]
            refine tw 10 130 J2 ?_ (hy := by intro w' hSw; have q0 := hSw.c x0; have q1 := hSw.c x1; have q2 := hSw.c x2; have q3 := hSw.c x3; have q4 := hSw.c x4; go_simp; try with_reducible rfl)
            try simp only [aS]
            refine tw 11 131 J2 ?_ (hy := by intro w' hSw; have q0 := hSw.c x0; have q1 := hSw.c x1; have q2 := hSw.c x2; have q3 := hSw.c x3; have q4 := hSw.c x4; go_simp; try with_reducible rfl)
            try simp only [aS]
            refine tw 12 132 J2 ?_ (hy := by intro w' hSw; have q0 := hSw.c x0; have q1 := hSw.c x1; have q2 := hSw.c x2; have q3 := hSw.c x3; have q4 := hSw.c x4; go_simp; try with_reducible rfl)
            try simp only [aS]
            refine tw 13 133 J2 ?_ (hy := by intro w' hSw; have q0 := hSw.c x0; have q1 := hSw.c x1; have q2 := hSw.c x2; have q3 := hSw.c x3; have q4 := hSw.c x4; go_simp; try with_reducible rfl)
            try simp only [aS]
            refine tw 15 135 J2 ?_ (hy := by intro w' hSw; have q0 := hSw.c x0; have q1 := hSw.c x1; have q2 := hSw.c x2; have q3 := hSw.c x3; have q4 := hSw.c x4; go_simp; try with_reducible rfl)
            try simp only [aS]
            refine tw 17 137 J2 ?_ (hy := by intro w' hSw; have q0 := hSw.c x0; have q1 := hSw.c x1; have q2 := hSw.c x2; have q3 := hSw.c x3; have q4 := hSw.c x4; go_simp; try with_reducible rfl)
            try simp only [aS]
            refine wpAnyH_ready (rs := [14]) (by kernel_rfl) (by simp) ?_
            refine AllReadyH.cons rfl (fun K hK => ?_) AllReadyH.nil
            go_simp
            refine (given_any _ (.slice U1 s.river.length k1) s (sigH ws id) m _ (HS.out.up (S.out.bel.trans ((BelS.b J2).mono S.out.bel.size)).size (S.out.bel.trans ((BelS.b J2).mono S.out.bel.size))) (R1.out.up (BelS.b J2).size (BelS.b J2)) HRP.out (by have := HRL.out; omega) E1.out).mono ?_
            rintro e wq3 ⟨vb2, rfl, hvb2, hq3⟩
            have J3 := J2.below hq3
            rw [HGV.out] at hvb2
            clear hq3
            refine hK.out _ _ J3 (fun _ => ?_)
            clear hK K
            try simp only [aS]
            refine wpAnyH_ready (rs := [16]) (by kernel_rfl) (by simp) ?_
            refine AllReadyH.cons rfl (fun K hK => ?_) AllReadyH.nil
            go_simp
            refine (flowing_any _ _ ws (setR s (headAt ws id) m) n _ (H.out.up (S.out.bel.trans ((BelS.b J3).mono S.out.bel.size)).size (S.out.bel.trans ((BelS.b J3).mono S.out.bel.size))) (by have := HT.out; omega) hvb2 (.inr (.inr ⟨HCK.out, setR_ok HOS.out (by omega) HM0.out, rfl⟩)) (lt_total HP.out)).mono ?_
            rintro e wq4 ⟨rfl, hq4⟩
            have J4 := J3.below hq4
            rw [HF3.out]
            clear hq4
            refine hK.out _ _ J4 (fun _ => ?_)
            clear hK K
            try simp only [aS]
            refine tw 18 138 J4 ?_ (hy := by intro w' hSw; have q0 := hSw.c x0; have q1 := hSw.c x1; have q2 := hSw.c x2; have q3 := hSw.c x3; have q4 := hSw.c x4; go_simp; try with_reducible rfl)
            try simp only [aS]
            refine tw 19 139 J4 ?_ (hy := by intro w' hSw; have q0 := hSw.c x0; have q1 := hSw.c x1; have q2 := hSw.c x2; have q3 := hSw.c x3; have q4 := hSw.c x4; go_simp; try with_reducible rfl)
            try simp only [aS]
            refine tw 20 140 J4 ?_ (hy := by intro w' hSw; have q0 := hSw.c x0; have q1 := hSw.c x1; have q2 := hSw.c x2; have q3 := hSw.c x3; have q4 := hSw.c x4; go_simp; try with_reducible rfl)
            try simp only [aS]
            refine tw 21 141 J4 ?_ (hy := by intro w' hSw; have q0 := hSw.c x0; have q1 := hSw.c x1; have q2 := hSw.c x2; have q3 := hSw.c x3; have q4 := hSw.c x4; go_simp; try with_reducible rfl)
            try simp only [aS]
            refine tw 22 142 J4 ?_ (hy := by intro w' hSw; have q0 := hSw.c x0; have q1 := hSw.c x1; have q2 := hSw.c x2; have q3 := hSw.c x3; have q4 := hSw.c x4; go_simp; try with_reducible rfl)
            try simp only [aS]
            refine tw 23 143 J4 ?_ (hy := by intro w' hSw; have q0 := hSw.c x0; have q1 := hSw.c x1; have q2 := hSw.c x2; have q3 := hSw.c x3; have q4 := hSw.c x4; go_simp; try with_reducible rfl)
            try simp only [aS]
            refine sw 24 144 J4 ?_
            try simp only [aS]
            refine sw 25 145 J4 ?_
            try simp only [aS]
            refine sw 26 146 J4 ?_
            try simp only [aS]
            refine sw 27 147 J4 ?_
            try simp only [aS]
            refine sw 28 148 J4 ?_
            try simp only [aS]
            refine sw 29 149 J4 ?_
            try simp only [aS]
            refine sw 30 150 J4 ?_
            try simp only [aS]
            refine sw 31 151 J4 ?_
            try simp only [aS]
            refine sw 32 152 J4 ?_
            try simp only [aS]
            refine sw 33 153 J4 ?_
            try simp only [aS]
            refine tw 34 154 J4 ?_ (hy := by intro w' hSw; have q0 := hSw.c x0; have q1 := hSw.c x1; have q2 := hSw.c x2; have q3 := hSw.c x3; have q4 := hSw.c x4; go_simp; try with_reducible rfl)
            try simp only [aS]
            refine tw 35 155 J4 ?_ (hy := by intro w' hSw; have q0 := hSw.c x0; have q1 := hSw.c x1; have q2 := hSw.c x2; have q3 := hSw.c x3; have q4 := hSw.c x4; go_simp; try with_reducible rfl)
            try simp only [aS]
            refine wpAnyH_done (by kernel_rfl) ?_ _
            have BE := Lib.hid (S.out.below (BelS.b J4))
            clear x0 x1 x2 x3 x4
            go_wp2_with fail
            go_meet
            case rel => exact BE.out
    case rest =>
      have hS := hcut
      replace S := Lib.hid hS
      clear hS hcut HA R1 HGV E1 HRL HRP HWF HWD HKN
      have x0 := S.out.wk
      have x1 := S.out.r
      have x2 := S.out.b
      have x3 := S.out.k
      have x4 := S.out.l
      go_upto_region 17 with fail
      obtain ⟨w17, hw17⟩ : ∃ W, wc = W := ⟨_, rfl⟩
      rw [hw17] at S x0 x1 x2 x3 x4 ⊢
      clear hw17
      refine wp_region_held_drew (S := BelS w17) (by kernel_rfl) (BelS.drew0 _) (fun J0 => ?_)
      refine tw 0 157 J0 ?_ (hy := by intro w' hSw; have q0 := hSw.c x0; have q1 := hSw.c x1; have q2 := hSw.c x2; have q3 := hSw.c x3; have q4 := hSw.c x4; go_simp; try with_reducible rfl)
      try simp only [aS]
      refine tw 1 158 J0 ?_ (hy := by intro w' hSw; have q0 := hSw.c x0; have q1 := hSw.c x1; have q2 := hSw.c x2; have q3 := hSw.c x3; have q4 := hSw.c x4; go_simp; try with_reducible rfl)
      try simp only [aS]
      refine tw 2 159 J0 ?_ (hy := by intro w' hSw; have q0 := hSw.c x0; have q1 := hSw.c x1; have q2 := hSw.c x2; have q3 := hSw.c x3; have q4 := hSw.c x4; go_simp; try with_reducible rfl)
      try simp only [aS]
      refine wpAnyH_ready (rs := [3]) (by kernel_rfl) (by simp) ?_
      refine AllReadyH.cons rfl (fun K hK => ?_) AllReadyH.nil
      go_simp
      refine (boarded_any _ s n 0 _ (HS.out.up (S.out.bel.trans ((BelS.b J0).mono S.out.bel.size)).size (S.out.bel.trans ((BelS.b J0).mono S.out.bel.size))) HBL.out.1 HBL.out.2).mono ?_
      rintro e wq1 ⟨vb1, rfl, hvb1, hq1⟩
      have J1 := J0.below hq1
      clear hq1
      refine hK.out _ _ J1 (fun _ => ?_)
      clear hK K
      try simp only [aS]
      refine wpAnyH_ready (rs := [4]) (by kernel_rfl) (by simp) ?_
      refine AllReadyH.cons rfl (fun K hK => ?_) AllReadyH.nil
      go_simp
      refine (Flow_any _ _ ws (setB s n 0) 0 _ (H.out.up (S.out.bel.trans ((BelS.b J1).mono S.out.bel.size)).size (S.out.bel.trans ((BelS.b J1).mono S.out.bel.size))) (by have := HT.out; omega) hvb1 (.inr (.inr ⟨HCK.out, board0_ok HW.out HOS.out HP.out, rfl⟩))).mono ?_
      rintro e wq2 ⟨uf, rfl, ouf, hq2⟩
      have J2 := J1.below hq2
      rw [okL_zero] at ouf
      obtain ⟨Uf, cf, rfl, -⟩ := ouf.form
      have OFL := Lib.hid ouf
      clear ouf
      clear hq2
      refine hK.out _ _ J2 (fun _ => ?_)
      clear hK K
      try simp only [aS]
      refine tw 5 156 J2 ?_ (hy := by intro w' hSw; have q0 := hSw.c x0; have q1 := hSw.c x1; have q2 := hSw.c x2; have q3 := hSw.c x3; have q4 := hSw.c x4; go_simp; try with_reducible rfl)
      try simp only [aS]
      refine tw 6 162 J2 ?_ (hy := by intro w' hSw; have q0 := hSw.c x0; have q1 := hSw.c x1; have q2 := hSw.c x2; have q3 := hSw.c x3; have q4 := hSw.c x4; go_simp; try with_reducible rfl)
      try simp only [aS]
      refine tw 7 163 J2 ?_ (hy := by intro w' hSw; have q0 := hSw.c x0; have q1 := hSw.c x1; have q2 := hSw.c x2; have q3 := hSw.c x3; have q4 := hSw.c x4; go_simp; try with_reducible rfl)
      try simp only [aS]
      refine tw 8 21 J2 ?_ (hy := by intro w' hSw; have q0 := hSw.c x0; have q1 := hSw.c x1; have q2 := hSw.c x2; have q3 := hSw.c x3; have q4 := hSw.c x4; go_simp; try with_reducible rfl)
      try simp only [aS]
      refine tw 9 22 J2 ?_ (hy := by intro w' hSw; have q0 := hSw.c x0; have q1 := hSw.c x1; have q2 := hSw.c x2; have q3 := hSw.c x3; have q4 := hSw.c x4; go_simp; try with_reducible rfl)
      try simp only [aS]
      refine wpAnyH_done (by kernel_rfl) ?_ _
      replace S := Lib.hid (S.out.below (BelS.b J2))
      clear x0 x1 x2 x3 x4
      have xx0 := S.out.wk
      have xx1 := S.out.r
      have xx2 := S.out.b
      have xx3 := S.out.k
      have xx4 := S.out.l
      go_wp2_with fail
      refine (Flow_any _ _ ws s 0 _ (H.out.up S.out.bel.size S.out.bel) (by have := HT.out; omega) (HS.out.up S.out.bel.size S.out.bel) HDS.out).mono ?_
      rintro e wc8 ⟨ug, rfl, oug, bb⟩
      replace S := Lib.hid (S.out.below bb)
      replace OFL := Lib.hid (OFL.out.below bb)
      rw [okL_zero] at oug
      obtain ⟨Ug, cg, rfl, -⟩ := oug.form
      have OGL := Lib.hid oug
      clear bb xx0 xx1 xx2 xx3 xx4 oug
      have hlf : (flowF ws (setB s n 0)).thr.length = total ws := thr_len ws _ _ (Nat.le_refl _)
      have hlg : (flowF ws s).thr.length = total ws := thr_len ws s _ (Nat.le_refl _)
      have hnt := lt_total HP.out
      have hn0 : (n : Int) < (total ws : Int) := by omega
      have hn1 : (0 : Int) ≤ (n : Int) := by omega
      have hn2 : (n : Int) ≤ 1000 := by have := HT.out; omega
      have hn3 : decide (total ws ≤ n) = false := decide_eq_false (by omega)
      have hn4 : (((total ws : Nat) : Int) != ((total ws : Nat) : Int)) = false := by simp
      obtain ⟨x, hx⟩ : ∃ x, (flowF ws (setB s n 0)).thr[n]? = some x := ⟨_, List.getElem?_eq_getElem (by omega)⟩
      obtain ⟨y, hy⟩ : ∃ y, (flowF ws s).thr[n]? = some y := ⟨_, List.getElem?_eq_getElem (by omega)⟩
      have hle := board_less HW.out HOS.out HP.out
      rw [List.getD_eq_getElem?_getD, List.getD_eq_getElem?_getD, hx, hy] at hle
      simp only [Option.getD_some] at hle
      have hlt : decide (y < x) = false := decide_eq_false (by omega)
      have RF := Lib.hid (OFL.out.rr EI (by rw [hlf]; have := HT.out; show total ws ≤ 1000000000000000; omega))
      have RG := Lib.hid (OGL.out.rr EI (by rw [hlg]; have := HT.out; show total ws ≤ 1000000000000000; omega))
      rw [hlf] at RF ⊢
      rw [hlg] at RG ⊢
      obtain ⟨bf, of, rfl, hbf, q1⟩ := RF.out.int hx
      obtain ⟨bg, og, rfl, hbg, q2⟩ := RG.out.int hy
      clear hx hy hle hlf hlg hnt OFL OGL
      go_wp2_with fail
      go_quiet (fail)
      obtain ⟨Y, hY⟩ : ∃ Y, wc8.drewN nq = Y := ⟨_, rfl⟩
      have bY : Below wc8.heap.size wc8 Y := by rw [← hY]; exact below_drewN (Below.refl _ _) _
      rw [hY]
      replace S := Lib.hid (S.out.below bY)
      replace RF := Lib.hid (RF.out.up bY.size bY)
      replace RG := Lib.hid (RG.out.up bY.size bY)
      clear hY bY q1 q2 hbf hbg hlt
      go_wp2_with fail
      go_loopw [25, 26] (fun n0 i wr => ∃ k : Nat, i = .int .i64 k ∧ k ≤ ws.length ∧ n0 = .int .i64 (pre ws k) ∧ WW w (.slice A ws.length c) (.slice A1 s.river.length c1) (.slice A2 s.boards.length c2) (.slice A3 s.leaks.length c3) (.slice A4 s.losses.length c4) wr ∧ RR encI wr.heap.size (.slice (some ⟨bf, of, none⟩) (total ws) cf) (flowF ws (setB s n 0)).thr wr ∧ RR encI wr.heap.size (.slice (some ⟨bg, og, none⟩) (total ws) cg) (flowF ws s).thr wr) (fun _ i _ => ws.length - (intOf i).toNat)
      case atStart => exact ⟨0, rfl, by omega, by rw [pre_zero]; rfl, S.out, RF.out, RG.out⟩
      case round =>
        obtain ⟨k, rfl, hk, rfl, hS, hF, hG⟩ := hrel
        replace S := Lib.hid hS
        replace RF := Lib.hid hF
        replace RG := Lib.hid hG
        have x0 := hS.wk
        clear hS hF hG
        by_cases hkl : k < ws.length
        · have hk0 : (k : Int) < (ws.length : Int) := by omega
          obtain ⟨os, hos⟩ : ∃ os, ws[k]? = some os := ⟨_, List.getElem?_eq_getElem hkl⟩
          have HOS2 := Lib.hid hos
          obtain ⟨b, o, hA, hbB, u, hu, A1_, c1_, hu2, -⟩ := rk_at (H.out.up S.out.bel.size S.out.bel) hos
          subst hA hu2
          have hps := pre_succ hos
          have hpl := pre_le ws (k + 1)
          have hpk : ((pre ws k : Nat) : Int) ≤ 1000 := by have := HT.out; omega
          have hkm : (k : Int) ≤ 1000 := by have := HT.out; omega
          have hol : (os.length : Int) ≤ 1000 := by have := HT.out; omega
          have hw3 : IntKind.i64.wrap ((pre ws k : Int) + os.length) = ((pre ws (k + 1) : Nat) : Int) := by rw [show ((pre ws (k + 1) : Nat) : Int) = (pre ws k : Int) + os.length by omega]; exact IntWalk.i64_in _ (by omega)
          have HPS := Lib.hid hps
          have HPL := Lib.hid hpl
          obtain ⟨P0, hP0⟩ : ∃ P, pre ws k = P := ⟨_, rfl⟩
          obtain ⟨P1, hP1⟩ : ∃ P, pre ws (k + 1) = P := ⟨_, rfl⟩
          have HP0 := Lib.hid hP0
          have HP1 := Lib.hid hP1
          rw [hP0] at hpk hw3 HPS ⊢
          rw [hP1] at hw3 HPS HPL
          clear hps hpl hP0 hP1 hos
          go_wp2_with fail
          go_loopw [28] (fun i wx => ∃ j : Nat, i = .int .i64 j ∧ n + 1 ≤ j ∧ j ≤ n + 1 + (P1 - (n + 1)) ∧ WW w (.slice (some ⟨b, o, none⟩) ws.length c) (.slice A1 s.river.length c1) (.slice A2 s.boards.length c2) (.slice A3 s.leaks.length c3) (.slice A4 s.losses.length c4) wx ∧ RR encI wx.heap.size (.slice (some ⟨bf, of, none⟩) (total ws) cf) (flowF ws (setB s n 0)).thr wx ∧ RR encI wx.heap.size (.slice (some ⟨bg, og, none⟩) (total ws) cg) (flowF ws s).thr wx) (fun i _ => P1 - (intOf i).toNat)
          case atStart => exact ⟨n + 1, by go_num, by omega, by omega, S.out, RF.out, RG.out⟩
          case round =>
            obtain ⟨j, rfl, hj0, hj1, hS, hF, hG⟩ := hrel
            replace S := Lib.hid hS
            replace RF := Lib.hid hF
            replace RG := Lib.hid hG
            clear hS hF hG
            by_cases hin : P0 ≤ n ∧ j < P1
            · obtain ⟨hin0, hin1⟩ := hin
              have g0 : (P0 : Int) ≤ (n : Int) := by omega
              have g1 : (j : Int) < (P1 : Int) := by omega
              have hjt : j < total ws := by have := HPL.out; omega
              have hjt0 : (j : Int) < (total ws : Int) := by omega
              have hj2 : (0 : Int) ≤ (j : Int) := by omega
              have hj3 : (j : Int) ≤ 1000 := by have := HT.out; omega
              obtain ⟨x, hx⟩ : ∃ x, (flowF ws (setB s n 0)).thr[j]? = some x := ⟨_, List.getElem?_eq_getElem (by rw [show (flowF ws (setB s n 0)).thr.length = total ws from thr_len ws _ _ (Nat.le_refl _)]; exact hjt)⟩
              obtain ⟨y, hy⟩ : ∃ y, (flowF ws s).thr[j]? = some y := ⟨_, List.getElem?_eq_getElem (by rw [show (flowF ws s).thr.length = total ws from thr_len ws _ _ (Nat.le_refl _)]; exact hjt)⟩
              have hle := board_behind HW.out HOS.out (i := n) (k := j) (c := k) (by have := HP0.out; omega) (by omega) (by have := HP1.out; omega) hkl
              rw [List.getD_eq_getElem?_getD, List.getD_eq_getElem?_getD, hx, hy] at hle
              simp only [Option.getD_some] at hle
              have hlt : decide (x < y) = false := decide_eq_false (by omega)
              obtain ⟨b1, o1, e1, -, q1⟩ := RF.out.int hx
              obtain ⟨b2, o2, e2, -, q2⟩ := RG.out.int hy
              cases e1
              cases e2
              clear hx hy hle hjt
              go_wp2_with fail
              go_quiet (fail)
              go_wp2_with fail
              go_roundw
              case rel => exact ⟨j + 1, by go_num, by omega, by omega, S.out.below (below_drewN (Below.refl _ _) _), RF.out.up (by simp) (below_drewN (Below.refl _ _) _), RG.out.up (by simp) (below_drewN (Below.refl _ _) _)⟩
              case measure => show P1 - ((j : Int) + 1).toNat < P1 - (j : Int).toNat; omega
            · have hh : (¬ (P0 : Int) ≤ (n : Int)) ∨ ((P0 : Int) ≤ (n : Int) ∧ ¬ (j : Int) < (P1 : Int)) := by omega
              rcases hh with g0 | ⟨g0, g1⟩
              all_goals
                go_wp2_with fail
                go_roundw
              all_goals first
                | exact ⟨k + 1, by go_num, by omega, by rw [HP1.out], S.out, RF.out, RG.out⟩
                | (show ws.length - ((k : Int) + 1).toNat < ws.length - (k : Int).toNat; omega)
        · have hk0 : (ws.length : Int) ≤ (k : Int) := by omega
          obtain rfl : k = ws.length := by omega
          go_wp2_with fail
          refine (sanity_any _).mono ?_
          rintro e wz ⟨rfl, bz⟩
          have SZ := Lib.hid (S.out.below bz)
          clear bz
          go_wp2_with fail
          go_ret
          exact ⟨rfl, SZ.out.bel⟩
end Go.Proofs.Ytkoacclbempmdaa

/- The law CarrierGets holds for every input: the row. -/
namespace Go.Proofs.Ytkoacclbempmdaa
open Go.ChangeShapes Go.WideShapes Go.ChangeAt Go.RowKit Go.Joins

namespace carrierGets
def wargs : Array Value := #[.agg #[.slice none 0 0], .agg #[.slice none 0 0, .slice none 0 0, .slice none 0 0, .slice none 0 0], .int .i64 0, .int .i64 0, .int .u16 0]
theorem laid_met (os : Os) : laidMet Try.prog Rows.carrierGetsRow.laid ((World.holding Try.prog os ⟨#[], #[], []⟩).forCall (fun _ _ => 0) ⟨#[], wargs, []⟩).memory :=
  laidMet_of_run' 8 (by kernel_rfl) (by kernel_rfl)
theorem reads (os : Os) {H : Type} (enc : TypeId × Value → H) : ∃ places, DataW.whole enc Try.prog ((World.holding Try.prog os ⟨#[], #[], []⟩).forCall (fun _ _ => 0) ⟨#[], wargs, []⟩).memory Try.f6.params.toList Rows.carrierGetsSpec.vars false wargs.toList 8 = some ([.agg [.nil], .agg [.nil, .nil, .nil, .nil], .lit (.int .i64 0), .lit (.int .i64 0), .lit (.int .u16 0)], [], places) :=
  ⟨[], by kernel_rfl⟩

set_option maxHeartbeats 1000000 in
set_option maxRecDepth 100000 in
/-- What the walk gives, for every argument. -/
theorem contract (H : Type) (enc : TypeId × Value → H) (W : World) (base : Nat) (args : Array Value) (ds gs : List (DataW H)) (before : List MemPlace)
    (hval : ∀ (j : Nat) t v, Try.f6.params[j]? = some t → args[j]? = some v → Value.okWide Try.prog W .any base t v)
    (hW : DataW.Whole enc Try.prog Try.f6.params.toList Rows.carrierGetsSpec.vars false W args.toList ds gs before)
    (hwt : (DataW.weightsEach Try.prog (Try.f6.params.toList ++ DataSpec.varTypes Try.prog (OpenSpec.ofChange Rows.carrierGetsSpec).bare.plain) (ds ++ gs)).all (· ≤ reachBytes) = true) :
    Calls Try.prog 6 args W fun e W' => ∃ v, e = .returned v ∧ Rows.carrierGetsSpec.post enc Try.prog Try.f6 false true false false W args v W' := by
  have hW' := hW
  obtain ⟨p, q, hA0, hV, rfl, hfz, hnd⟩ := hW
  have hA : DataW.TrodAll enc Try.prog W 0 (fun _ => true) true Try.f6.params.toList args.toList ds p := hA0
  have hAk := hA
  have hsize : ∀ t ∈ Try.f6.params.toList, t < Try.prog.types.size := by rw [Try.params6]; decide +kernel
  have hwt' := hwt
  rw [Try.params6] at hA hval hwt'
  obtain ⟨v0, vs0, d0, ds0, p0, q0, hargs, rfl, rfl, h0, r0⟩ := trodAll_cons hA
  obtain ⟨v1, vs1, d1, ds1, p1, q1, rfl, rfl, rfl, h1, r1⟩ := trodAll_cons r0
  obtain ⟨v2, vs2, d2, ds2, p2, q2, rfl, rfl, rfl, h2, r2⟩ := trodAll_cons r1
  obtain ⟨v3, vs3, d3, ds3, p3, q3, rfl, rfl, rfl, h3, r3⟩ := trodAll_cons r2
  obtain ⟨v4, vs4, d4, ds4, p4, q4, rfl, rfl, rfl, h4, r4⟩ := trodAll_cons r3
  obtain ⟨rfl, rfl, rfl⟩ := trodAll_nil r4
  obtain rfl : args = #[v0, v1, v2, v3, v4] := by cases args; simp_all
  obtain ⟨rfl, rfl⟩ := trodVars_none hV
  obtain ⟨A, c, ws, rfl, hk⟩ := works_open (hval 0 24 v0 rfl rfl) h0 (WB.each _ _ hwt' 0 _ _ rfl rfl)
  obtain ⟨s1, hs1⟩ := water_open (hval 1 27 v1 rfl rfl) h1 (WB.each _ _ hwt' 1 _ _ rfl rfl)
  obtain ⟨n2, rfl, rfl, rfl, wn2⟩ := open_int Try.underlying3 (hval 2 3 v2 rfl rfl) h2
  obtain ⟨n3, rfl, rfl, rfl, wn3⟩ := open_int Try.underlying3 (hval 3 3 v3 rfl rfl) h3
  obtain ⟨n4, rfl, rfl, rfl, wn4⟩ := open_int Try.underlying59 (hval 4 59 v4 rfl rfl) h4
  have hu4 : 0 ≤ n4 ∧ n4 ≤ 65535 := by
    have m0 : IntKind.u16.min = 0 := rfl
    have m1 : IntKind.u16.max = 65535 := rfl
    have := wn4
    simp only [Lit.wf, m0, m1, Bool.and_eq_true, decide_eq_true_eq] at this
    exact this
  have hcall := gets_law A c v1 ws s1 n2 n3 n4 W hk hs1 hu4.1 hu4.2
  refine hcall.mono fun e W' ⟨he, hb⟩ => ?_
  subst he
  refine ⟨_, rfl, _, _, _, [], _, [], hW', ?_, args_again hb hsize hAk, ?_, hb.frame _, fun h => by cases h⟩
  · exact trodAll_cons_mk (shut_bool Try.underlying4 _) trodAll_mk0
  · rfl

set_option maxRecDepth 100000 in
theorem lifted (os : Os) (started : os.Started) (H : Type) (enc : TypeId × Value → H) (F : Stop.Interp) :
    ReturnsInHanded {} Try.checked os 6 .any ((OpenSpec.ofChange Rows.carrierGetsSpec).preRow enc Try.prog Try.f6 Rows.carrierGetsRow.domain false Rows.carrierGetsRow.laid) (((OpenSpec.ofChange Rows.carrierGetsSpec).at F).post enc Try.prog Try.f6 false true false false) := by
  obtain ⟨places, hx⟩ := reads os enc
  refine returnsInHanded_of_row (C := Try.checked) (s := OpenSpec.ofChange Rows.carrierGetsSpec) own started (by kernel_rfl) Try.func6
    (witness_row_at (enc := enc) (C := Try.checked) false (World.holding Try.prog os ⟨#[], #[], []⟩) wargs rfl (by kernel_rfl) (by kernel_rfl) (by kernel_rfl)
      (OpenSpec.preRow_of_cond 8 hx (by kernel_rfl) (fun k hk => by cases hk) (by kernel_rfl) (laid_met os))) ?_
  intro W base args ds gs before hval hW _ _ hwt hL _ _
  exact contract H enc W base args ds gs before hval hW hwt

theorem said : Rows.CarrierGetsSaid :=
  OpenClaim.holds_of_cond 6 Try.f6 rfl rfl rfl rfl rfl rfl rfl ⟨rfl, rfl, rfl, rfl, rfl⟩ rfl rfl rfl rfl rfl (by kernel_rfl) Try.func6 (by kernel_rfl)
    (of_decide_eq_true (by kernel_rfl)) (by unfold Func.isWrapper; first | (rw [if_pos (by decide +kernel)]; kernel_rfl) | (rw [if_neg (by decide +kernel)]; exact ⟨rfl, rfl⟩))
    (fun os started H enc _ F => by rw [OpenClaim.pre_eq_preRow]; exact lifted os started H enc F)
end carrierGets
theorem carrierGets_holds : Rows.CarrierGetsSaid := carrierGets.said
end Go.Proofs.Ytkoacclbempmdaa
