/- Contract of turn.Same. -/
import Derived.Test.YtlhgpeelenelbaaDoorT3
namespace Go.Proofs.YtlhgpeelenelbaaDoor
open Go.RowKit

set_option maxHeartbeats 4000000 in
set_option maxRecDepth 100000 in
theorem same_err (va vb : Value) (ts ts2 : List T3) (ss ss2 : List S2) (c c' d : Int) (w : World) (h : RM w.heap.size va ts ss w) (h' : RM w.heap.size vb ts2 ss2 w) (hc : CheckIs ts ss c) (hc' : CheckIs ts2 ss2 c') (hd : BothIs c c' d) (h0 : d = 1 ∨ d = 2) :
    Calls Tryd.prog 43 #[va, vb] w fun e w' => e = .returned (.tuple #[.int .i64 0, .bool false, .int .i64 d]) ∧ Below w.heap.size w w' := by
  obtain ⟨A, k, ca, A', k', ca', rfl, -⟩ := id h
  obtain ⟨B, l, cb, B', l', cb', rfl, -⟩ := id h'
  have C := Lib.hid fun W (S : N2d w (.slice A k ca) (.slice A' k' ca') (.slice B l cb) (.slice B' l' cb') W) => checkBoth_any _ _ ts ts2 ss ss2 c c' d W (h.up S.siz S.bel) (h'.up S.siz S.bel) hc hc' hd
  have S0 := Lib.hid (N2d.new (w := w) (v0 := .slice A k ca) (v1 := .slice A' k' ca') (u0 := .slice B l cb) (u1 := .slice B' l' cb') 25 25)
  clear h h' hc hc' hd
  rcases h0 with rfl | rfl
  all_goals
    go_enter Tryd.func43, Tryd.ntmps43
    go_wp2_with fail
    refine (C.out _ S0.out).mono ?_
    rintro e w1 ⟨rfl, h1⟩
    have S := Lib.hid (S0.out.below h1)
    clear h1 S0
    go_wp2_with fail
    go_ret3
    exact ⟨rfl, S.out.bel⟩

set_option maxHeartbeats 60000000 in
set_option maxRecDepth 100000 in
theorem same_ok (va vb : Value) (ts ts2 : List T3) (ss ss2 : List S2) (r : Int) (bo : Bool) (w : World) (h : RM w.heap.size va ts ss w) (h' : RM w.heap.size vb ts2 ss2 w) (hc : CheckIs ts ss 0) (hc' : CheckIs ts2 ss2 0)
    (hs : SameIs (setB (lotsOf ts ss)) (setB (lotsOf ts2 ss2)) r bo) :
    Calls Tryd.prog 43 #[va, vb] w fun e w' => e = .returned (.tuple #[.int .i64 r, .bool bo, .int .i64 0]) ∧ Below w.heap.size w w' := by
  obtain ⟨A0, k, ca, A0', k', ca', rfl, -⟩ := id h
  obtain ⟨B0, l, cb, B0', l', cb', rfl, -⟩ := id h'
  obtain ⟨k1, k2, k3⟩ := checkIs_ok hc
  obtain ⟨l1, l2, l3⟩ := checkIs_ok hc'
  have C := Lib.hid fun W (S : N2d w (.slice A0 k ca) (.slice A0' k' ca') (.slice B0 l cb) (.slice B0' l' cb') W) => checkBoth_any _ _ ts ts2 ss ss2 0 0 0 W (h.up S.siz S.bel) (h'.up S.siz S.bel) hc hc' (.inr ⟨rfl, rfl⟩)
  have Ca := Lib.hid fun W (S : N2d w (.slice A0 k ca) (.slice A0' k' ca') (.slice B0 l cb) (.slice B0' l' cb') W) => sweepOf_any _ ts ss W (h.up S.siz S.bel) k1 k2
  have Cb := Lib.hid fun W (S : N2d w (.slice A0 k ca) (.slice A0' k' ca') (.slice B0 l cb) (.slice B0' l' cb') W) => sweepOf_any _ ts2 ss2 W (h'.up S.siz S.bel) l1 l2
  have HOK := Lib.hid (lotsOf_ok k3)
  have HOK' := Lib.hid (lotsOf_ok l3)
  have HN : Hid ((lotsOf ts ss).length ≤ 100) := Lib.hid (by simp [lotsOf]; omega)
  have HN' : Hid ((lotsOf ts2 ss2).length ≤ 100) := Lib.hid (by simp [lotsOf]; omega)
  have HS := Lib.hid hs
  have ST := Lib.hid fun (lo a b a' b' : Int) (x0 : 0 ≤ lo) (x1 : lo ≤ 1048576) hr hr' hl => same_step (H := setB (lotsOf ts ss)) (H' := setB (lotsOf ts2 ss2)) (fun m => setB_iff (lotsOf ts ss) m) (fun m => setB_iff (lotsOf ts2 ss2) m) (lo := lo) (a := a) (b := b) (a' := a') (b' := b') x0 x1 hr hr' hl
  have S0 := Lib.hid (N2d.new (w := w) (v0 := .slice A0 k ca) (v1 := .slice A0' k' ca') (u0 := .slice B0 l cb) (u1 := .slice B0' l' cb') 25 25)
  clear h h' hc hc' k3 l3 hs
  go_enter Tryd.func43, Tryd.ntmps43
  go_wp2_with fail
  refine (C.out _ S0.out).mono ?_
  rintro e w1 ⟨rfl, h1⟩
  have S := Lib.hid (S0.out.below h1)
  clear h1 S0
  obtain ⟨t0, t1, t2, t3, t4, _⟩ := S.out.out
  go_upto_region 4 with fail
  go_cut [8, 9] from 19 to 22 (fun s8 s9 wx => ∃ (b8 b9 : Nat) (bs : List Nat) (A : Option Addr) (c n0 n1 : Nat) (bs' : List Nat) (A' : Option Addr) (c' m0 m1 N : Nat), s8 = .pointer (some ⟨b8, 0, none⟩) ∧ s9 = .pointer (some ⟨b9, 0, none⟩) ∧ LSt w (lotsOf ts ss) (lotsOf ts2 ss2) b8 b9 N bs A c n0 n1 bs' A' c' m0 m1 0 0 wx)
  case rest =>
    obtain ⟨b8, b9, bs, A, c, n0, n1, bs', A', c', m0, m1, N, rfl, rfl, L0⟩ := hcut
    have HL0 := Lib.hid L0
    clear L0 t0 t1 t2 t3 t4 C Ca Cb S
    go_wp2_with fail
    refine (season_any _).mono ?_
    rintro e w6 ⟨rfl, h6⟩
    have HL6 := Lib.hid (HL0.out.far (GrownL.of_below (bs := []) h6) fun _ h => by cases h)
    clear h6 HL0
    go_wp2_with fail
    go_loopw [10] (fun u wr => ∃ (b10 : Nat) (lo q q' : Int), u = .pointer (some ⟨b10, 0, none⟩) ∧ LT w (lotsOf ts ss) (lotsOf ts2 ss2) b8 b9 N bs A c n0 n1 bs' A' c' m0 m1 q q' b10 lo 1048576 wr ∧ wr.frozen? ⟨b10, 0, none⟩ = false ∧
      ((0 ≤ lo ∧ lo ≤ 1048577 ∧ q ≤ lo ∧ q' ≤ lo ∧ ∀ m, 0 ≤ m → m < lo → setB (lotsOf ts ss) m = setB (lotsOf ts2 ss2) m) ∨ (lo = 1099511627777 ∧ SameIs (setB (lotsOf ts ss)) (setB (lotsOf ts2 ss2)) 0 true))) (fun u wr => (1048578 - loAt u wr).toNat)
    case atStart =>
      refine ⟨w6.heap.size, 0, 0, 0, rfl, ⟨HL6.out.far (GrownL.of_below (bs := []) ((Below.refl _ _).alloc (Nat.le_refl _) _)) (fun _ h => by cases h), Two.new 49, HL6.out.lim.2.2.2, by simp [go_sem]⟩, by simp [go_sem], .inl ⟨by omega, by omega, by omega, by omega, fun m _ _ => by omega⟩⟩
    case round =>
      obtain ⟨b10, lo, q, q', rfl, hT, f10, hcase⟩ := hrel
      have HT := Lib.hid hT
      have HF := Lib.hid f10
      obtain ⟨x8, x9, x10, x11⟩ := hT.out
      obtain ⟨z10, zN, zs⟩ := hT.siz
      clear hT
      rcases hcase with ⟨h0, h1, hq, hq', hl⟩ | ⟨rfl, hfin⟩
      · have HLW := Lib.hid hl
        clear hl
        by_cases hlt : lo ≤ 1048576
        · have Ca := Lib.hid fun W (S : LT w (lotsOf ts ss) (lotsOf ts2 ss2) b8 b9 N bs A c n0 n1 bs' A' c' m0 m1 q q' b10 lo 1048576 W) => next1_LT HOK.out HN.out h0 h1 hq S
          have Cb := Lib.hid fun q1 W (S : LT w (lotsOf ts ss) (lotsOf ts2 ss2) b8 b9 N bs A c n0 n1 bs' A' c' m0 m1 q1 q' b10 lo 1048576 W) => next2_LT HOK'.out HN'.out h0 h1 hq' S
          go_upto_region 7 with fail
          go_cut [11, 12] from 24 to 60 (fun s11 s12 wx => ∃ (b11 b12 : Nat) (pa pb qa qb q1 q2 : Int), s11 = .pointer (some ⟨b11, 0, none⟩) ∧ s12 = .pointer (some ⟨b12, 0, none⟩) ∧ Two b11 (.int .i64 pa) (.int .i64 pb) wx ∧ Two b12 (.int .i64 qa) (.int .i64 qb) wx ∧
            RunIs (fun m => ∃ x ∈ lotsOf ts ss, x.has m) lo 1048576 pa pb ∧ RunIs (fun m => ∃ x ∈ lotsOf ts2 ss2, x.has m) lo 1048576 qa qb ∧ q1 ≤ pb + 1 ∧ q2 ≤ qb + 1 ∧ LT w (lotsOf ts ss) (lotsOf ts2 ss2) b8 b9 N bs A c n0 n1 bs' A' c' m0 m1 q1 q2 b10 lo 1048576 wx ∧ wx.frozen? ⟨b10, 0, none⟩ = false)
          case rest =>
            obtain ⟨b11, b12, pa, pb, qa, qb, q1, q2, rfl, rfl, ⟨p0, p1, p2⟩, ⟨r0, r1, r2⟩, hr, hr', g1, g2, hT2, f2⟩ := hcut
            have HT2 := Lib.hid hT2
            have HBL := Lib.hid hT2.1.hB
            obtain ⟨y1, y2, y3⟩ := ST.out lo pa pb qa qb h0 hlt hr hr' HLW.out
            have lbp : 0 ≤ pa ∧ 0 ≤ pb ∧ pb ≤ 1099511627776 ∧ pa ≤ 1099511627776 := by rcases hr with ⟨rfl, rfl, _⟩ | ⟨u1, u2, u3, _⟩ <;> omega
            have lbq : 0 ≤ qa ∧ 0 ≤ qb ∧ qb ≤ 1099511627776 ∧ qa ≤ 1099511627776 := by rcases hr' with ⟨rfl, rfl, _⟩ | ⟨u1, u2, u3, _⟩ <;> omega
            clear x8 x9 x10 x11 f10 Ca Cb hr hr'
            obtain ⟨x8, x9, x10, x11⟩ := hT2.out
            clear hT2
            by_cases e1 : pa = qa
            · by_cases e2 : pb = qb
              · have Y3 := Lib.hid (y3 e1 e2)
                clear y1 y2 y3
                subst e1 e2
                have W1 : IntKind.i64.wrap (pb + 1) = pb + 1 := IntWalk.i64_in _ (by omega)
                go_wp2_with fail
                go_roundw
                case rel =>
                  refine ⟨wc.heap.size, pb + 1, q1, q2, rfl, ⟨(HT2.out.1.far (GrownL.set (bs := [b10]) wc ⟨b10, 0, none⟩ _ (by simp)) (fun b hb => by simp at hb; omega)).far (GrownL.of_below (bs := []) ((Below.refl _ _).alloc (Nat.le_refl _) _)) (fun _ h => by cases h), ⟨by simp [go_sem], by simp [go_sem], by simp⟩, HT2.out.siz.2.2, by simp [go_sem]⟩, by simp [go_sem], ?_⟩
                  rcases Y3.out with ⟨u1, u2⟩ | ⟨u1, u2, u3⟩
                  · exact .inr ⟨by omega, u2⟩
                  · exact .inl ⟨by omega, by omega, g1, g2, u3⟩
                case measure =>
                  have hv : lo ≤ pb := by rcases Y3.out with ⟨u1, _⟩ | ⟨u1, _, _⟩ <;> omega
                  rw [loAt_of (b := b10) HT.out.out.2.2.1, loAt_of (n := pb + 1) (by simp [go_sem])]
                  omega
              · obtain ⟨ys, yb1, yb2⟩ := y2 e1 e2
                subst e1
                clear y1 y2 y3
                by_cases e3 : qb < pb
                · rw [if_pos e3] at ys
                  obtain ⟨rfl, rfl⟩ := SameIs.unique HS.out ys
                  clear ys
                  go_wp2_with fail
                  go_ret3
                  exact ⟨rfl, HBL.out⟩
                · rw [if_neg e3] at ys
                  obtain ⟨rfl, rfl⟩ := SameIs.unique HS.out ys
                  clear ys
                  go_wp2_with fail
                  go_ret3
                  exact ⟨rfl, HBL.out⟩
            · have ys := y1 e1
              clear y1 y2 y3
              by_cases e3 : qa < pa
              · rw [if_pos e3] at ys
                obtain ⟨rfl, rfl⟩ := SameIs.unique HS.out ys
                clear ys
                go_wp2_with fail
                go_ret3
                exact ⟨rfl, HBL.out⟩
              · rw [if_neg e3] at ys
                obtain ⟨rfl, rfl⟩ := SameIs.unique HS.out ys
                clear ys
                go_wp2_with fail
                go_ret3
                exact ⟨rfl, HBL.out⟩
          have S3d := HT.out.drew
          have S3e := HT.out
          have z8 := HT.out.1.lim
          have zb10 : N ≤ wr.heap.size := by omega
          have zc10 : N ≤ wr.heap.size + 1 := by omega
          go_region_held3 (LX A bs.length c A' bs'.length c' b8 b9 b10 lo 1048576) (with_reducible (first | exact LT.out S5 | exact LT.out (LT.alloc S5 _) | exact LT.out (LT.alloc (LT.alloc S5 _) _) | exact LT.out (LT.set (LT.set S5 (by omega) _) (by omega) _) | exact LT.out (LT.alloc (LT.set (LT.set S5 (by omega) _) (by omega) _) _) | exact LT.out (LT.set (LT.set (LT.set (LT.set S5 (by omega) _) (by omega) _) (by omega) _) (by omega) _) | exact LT.out (LT.set (LT.set (LT.alloc S5 _) (by omega) _) (by omega) _) | exact LT.out S4 | exact LT.out (LT.alloc S4 _) | exact LT.out (LT.alloc (LT.alloc S4 _) _) | exact LT.out S3d | exact LT.out (LT.drew (LT.alloc S3e _)) | exact LT.out (LT.drew (LT.alloc (LT.alloc S3e _) _))))
            (first
              | (go_at_call_of 101 (Value.agg #[Value.slice A bs.length c]); refine (Ca.out _ (by with_reducible first | exact S3d | exact LT.drew (LT.alloc S3e _) | exact LT.drew (LT.alloc (LT.alloc S3e _) _))).mono ?_; rintro e w4 ⟨pa, pb, q1, hr, hg1, rfl, S4, h4⟩; obtain ⟨hc4, hf4⟩ := h4.cells; have hz4 := h4.1; (try simp only [World.size_alloc, World.size_drew, Nat.add_assoc] at hz4); have z4 := S4.siz; (try have k40 := fun (o : Nat) => hc4 (wr.heap.size) o (by first | omega | (simp; done) | (simp; omega)) (by first | omega | (simp; done) | (simp; omega))); (try have j40 := fun (o : Nat) => hf4 (wr.heap.size) o (by first | omega | (simp; done) | (simp; omega)) (by first | omega | (simp; done) | (simp; omega))); (try have k41 := fun (o : Nat) => hc4 (wr.heap.size + 1) o (by first | omega | (simp; done) | (simp; omega)) (by first | omega | (simp; done) | (simp; omega))); (try have j41 := fun (o : Nat) => hf4 (wr.heap.size + 1) o (by first | omega | (simp; done) | (simp; omega)) (by first | omega | (simp; done) | (simp; omega))); clear hc4 hf4; (try have p4 : Two wr.heap.size (.int .i64 0) (.int .i64 0) w4 := h4.two (by omega) (by with_reducible first | exact Two.drew (Two.new 49) | exact Two.drew (Two.alloc (Two.new 49) _))); (try have p4' : Two (wr.heap.size + 1) (.int .i64 0) (.int .i64 0) w4 := h4.two (by omega) (by with_reducible exact Two.drew (Two.new1 _ 49))); (try have hq4 : wr.heap.size < w4.heap.size := by omega); (try have hr4 : wr.heap.size + 1 < w4.heap.size := by omega); have zb4 : N ≤ w4.heap.size := (by omega); have zc4 : N ≤ w4.heap.size + 1 := (by omega); clear h4)
              | (go_at_call_of 101 (Value.agg #[Value.slice A' bs'.length c']); refine (Cb.out _ _ (by with_reducible first | exact S4 | exact LT.alloc S4 _ | exact LT.alloc (LT.alloc S4 _) _)).mono ?_; rintro e w5 ⟨qa, qb, q2, hr', hg2, rfl, S5, h5⟩; obtain ⟨hc5, hf5⟩ := h5.cells; have hz5 := h5.1; (try simp only [World.size_alloc, World.size_drew, Nat.add_assoc] at hz5); have z5 := S5.siz; (try have k50 := fun (o : Nat) => hc5 (wr.heap.size) o (by first | omega | (simp; done) | (simp; omega)) (by first | omega | (simp; done) | (simp; omega))); (try have j50 := fun (o : Nat) => hf5 (wr.heap.size) o (by first | omega | (simp; done) | (simp; omega)) (by first | omega | (simp; done) | (simp; omega))); (try have k51 := fun (o : Nat) => hc5 (wr.heap.size + 1) o (by first | omega | (simp; done) | (simp; omega)) (by first | omega | (simp; done) | (simp; omega))); (try have j51 := fun (o : Nat) => hf5 (wr.heap.size + 1) o (by first | omega | (simp; done) | (simp; omega)) (by first | omega | (simp; done) | (simp; omega))); (try have k52 := fun (o : Nat) => hc5 (w4.heap.size) o (by first | omega | (simp; done) | (simp; omega)) (by first | omega | (simp; done) | (simp; omega))); (try have j52 := fun (o : Nat) => hf5 (w4.heap.size) o (by first | omega | (simp; done) | (simp; omega)) (by first | omega | (simp; done) | (simp; omega))); (try have k53 := fun (o : Nat) => hc5 (w4.heap.size + 1) o (by first | omega | (simp; done) | (simp; omega)) (by first | omega | (simp; done) | (simp; omega))); (try have j53 := fun (o : Nat) => hf5 (w4.heap.size + 1) o (by first | omega | (simp; done) | (simp; omega)) (by first | omega | (simp; done) | (simp; omega))); clear hc5 hf5; (try have p5 : Two wr.heap.size (.int .i64 0) (.int .i64 0) w5 := h5.two (by omega) (by with_reducible first | exact p4 | exact Two.alloc p4 _ | exact Two.alloc (Two.alloc p4 _) _)); (try have p5' : Two (wr.heap.size + 1) (.int .i64 0) (.int .i64 0) w5 := h5.two (by omega) (by with_reducible exact p4')); (try have p5a : Two w4.heap.size (.int .i64 0) (.int .i64 0) w5 := h5.two (by omega) (by with_reducible first | exact Two.new 49 | exact Two.alloc (Two.new 49) _)); (try have p5b : Two (w4.heap.size + 1) (.int .i64 0) (.int .i64 0) w5 := h5.two (by omega) (by with_reducible exact Two.new1 _ 49)); (try have hq5 : wr.heap.size < w5.heap.size := by omega); (try have hr5 : wr.heap.size + 1 < w5.heap.size := by omega); (try have hs5 : w4.heap.size < w5.heap.size := by omega); (try have ht5 : w4.heap.size + 1 < w5.heap.size := by omega); clear h5))
          all_goals go_wp2_with fail
          all_goals go_meet
          all_goals
            refine ⟨_, _, pa, pb, qa, qb, q1, q2, rfl, rfl, ?_, ?_, hr, hr', hg1, hg2, ?_, ?_⟩
            · with_reducible (first | exact Two.alloc (Two.new 49) _ | exact Two.new1 _ 49 | exact Two.newS _ _ _ _ 49 | exact Two.alloc (Two.set p5 _ _) _ | exact Two.other (Two.other (Two.set p5 _ _) (by omega) _) (by omega) _ | exact Two.set (Two.other (Two.other p5 (by omega) _) (by omega) _) _ _ | exact Two.alloc (Two.set p5' _ _) _ | exact Two.other (Two.other (Two.set p5' _ _) (by omega) _) (by omega) _ | exact Two.set (Two.other (Two.other p5' (by omega) _) (by omega) _) _ _ | exact Two.alloc (Two.set p5a _ _) _ | exact Two.other (Two.other (Two.set p5a _ _) (by omega) _) (by omega) _ | exact Two.set (Two.other (Two.other p5a (by omega) _) (by omega) _) _ _ | exact Two.alloc (Two.set p5b _ _) _ | exact Two.other (Two.other (Two.set p5b _ _) (by omega) _) (by omega) _ | exact Two.set (Two.other (Two.other p5b (by omega) _) (by omega) _) _ _)
            · with_reducible (first | exact Two.alloc (Two.new 49) _ | exact Two.new1 _ 49 | exact Two.newS _ _ _ _ 49 | exact Two.alloc (Two.set p5 _ _) _ | exact Two.other (Two.other (Two.set p5 _ _) (by omega) _) (by omega) _ | exact Two.set (Two.other (Two.other p5 (by omega) _) (by omega) _) _ _ | exact Two.alloc (Two.set p5' _ _) _ | exact Two.other (Two.other (Two.set p5' _ _) (by omega) _) (by omega) _ | exact Two.set (Two.other (Two.other p5' (by omega) _) (by omega) _) _ _ | exact Two.alloc (Two.set p5a _ _) _ | exact Two.other (Two.other (Two.set p5a _ _) (by omega) _) (by omega) _ | exact Two.set (Two.other (Two.other p5a (by omega) _) (by omega) _) _ _ | exact Two.alloc (Two.set p5b _ _) _ | exact Two.other (Two.other (Two.set p5b _ _) (by omega) _) (by omega) _ | exact Two.set (Two.other (Two.other p5b (by omega) _) (by omega) _) _ _)
            · with_reducible (first | exact LT.alloc (LT.alloc S5 _) _ | exact LT.alloc (LT.set (LT.set S5 (by omega) _) (by omega) _) _ | exact LT.set (LT.set (LT.set (LT.set S5 (by omega) _) (by omega) _) (by omega) _) (by omega) _)
            · with_reducible (first | exact LT.frz (LT.alloc (LT.alloc S5 _) _) | exact LT.frz (LT.alloc (LT.set (LT.set S5 (by omega) _) (by omega) _) _) | exact LT.frz (LT.set (LT.set (LT.set (LT.set S5 (by omega) _) (by omega) _) (by omega) _) (by omega) _))
        · obtain ⟨rfl, rfl⟩ := SameIs.unique HS.out (.inl ⟨rfl, rfl, fun m m0 m1 => HLW.out m m0 (by omega)⟩)
          have HBL := Lib.hid HT.out.1.hB
          go_wp2_with fail
          go_ret3
          exact ⟨rfl, HBL.out⟩
      · obtain ⟨rfl, rfl⟩ := SameIs.unique HS.out hfin
        have HBL := Lib.hid HT.out.1.hB
        go_wp2_with fail
        go_ret3
        exact ⟨rfl, HBL.out⟩
  have S3d : N2d w (.slice A0 k ca) (.slice A0' k' ca') (.slice B0 l cb) (.slice B0' l' cb') w1.drew := S.out.drew
  have S3e : N2d w (.slice A0 k ca) (.slice A0' k' ca') (.slice B0 l cb) (.slice B0' l' cb') w1 := S.out
  have HB0 := Lib.hid S.out.bel
  have hz1 := S.out.siz
  go_region_held3 (N2 w (.slice A0 k ca) (.slice A0' k' ca') (.slice B0 l cb) (.slice B0' l' cb')) ((refine N2d.out ?_; with_reducible (first | exact S5 | exact N2d.alloc S5 _ | exact N2d.alloc (N2d.alloc S5 _) _ | exact N2d.set S5 (by omega) _ | exact N2d.set (N2d.set S5 (by omega) _) (by omega) _ | exact N2d.set (N2d.alloc S5 _) (by omega) _ | exact N2d.alloc (N2d.set S5 (by omega) _) _ | exact N2d.set (N2d.alloc (N2d.alloc S5 _) _) (by omega) _ | exact N2d.set (N2d.alloc (N2d.set S5 (by omega) _) _) (by omega) _ | exact N2d.set (N2d.set (N2d.alloc S5 _) (by omega) _) (by omega) _ | exact N2d.set (N2d.set (N2d.alloc (N2d.alloc S5 _) _) (by omega) _) (by omega) _ | exact S4 | exact N2d.alloc S4 _ | exact N2d.alloc (N2d.alloc S4 _) _ | exact S3d | exact N2d.drew (N2d.alloc S3e _) | exact N2d.drew (N2d.alloc (N2d.alloc S3e _) _))))
    (first
      | (go_at_call_of 99 (Value.agg #[Value.slice A0 k ca, Value.slice A0' k' ca']); refine (Ca.out _ (by with_reducible first | exact S3d | exact N2d.drew (N2d.alloc S3e _) | exact N2d.drew (N2d.alloc (N2d.alloc S3e _) _))).mono ?_; rintro e w4 ⟨bs, A, c, rfl, hf, hp, h4, hg⟩; have S4 : N2d w (.slice A0 k ca) (.slice A0' k' ca') (.slice B0 l cb) (.slice B0' l' cb') w4 := (by with_reducible first | exact N2d.below S3d h4 | exact N2d.below (N2d.drew (N2d.alloc S3e _)) h4 | exact N2d.below (N2d.drew (N2d.alloc (N2d.alloc S3e _) _)) h4); have Q4 := SWp.fresh hf hp h4 hg; obtain ⟨hc4, hf4⟩ := bcell h4; have hz4 := h4.size; (try simp only [World.size_alloc, World.size_drew, Nat.add_assoc] at hz4 Q4); (try have p4 : One w1.heap.size (.slice none 0 0) w4 := One.below (by with_reducible first | exact One.drew (One.new 118) | exact One.drew (One.alloc (One.new 118) _)) h4); (try have p4' : One (w1.heap.size + 1) (.slice none 0 0) w4 := One.below (by with_reducible exact One.drew (One.new1 _ 118)) h4); (try have hq4 : w1.heap.size < w4.heap.size := by omega); (try have hr4 : w1.heap.size + 1 < w4.heap.size := by omega); clear hf hp h4 hg)
      | (go_at_call_of 99 (Value.agg #[Value.slice B0 l cb, Value.slice B0' l' cb']); refine (Cb.out _ (by with_reducible first | exact S4 | exact N2d.alloc S4 _ | exact N2d.alloc (N2d.alloc S4 _) _)).mono ?_; rintro e w5 ⟨bs', A', c', rfl, hf, hp, h5, hg⟩; have S5 : N2d w (.slice A0 k ca) (.slice A0' k' ca') (.slice B0 l cb) (.slice B0' l' cb') w5 := (by with_reducible first | exact N2d.below S4 h5 | exact N2d.below (N2d.alloc S4 _) h5 | exact N2d.below (N2d.alloc (N2d.alloc S4 _) _) h5); have Q5 := SWp.fresh hf hp h5 hg; have R4 := (by with_reducible first | exact SWp.below Q4 h5 | exact SWp.below (SWp.alloc Q4 _) h5 | exact SWp.below (SWp.alloc (SWp.alloc Q4 _) _) h5); obtain ⟨hc5, hf5⟩ := bcell h5; have hz5 := h5.size; (try simp only [World.size_alloc, World.size_drew, Nat.add_assoc] at hz5 Q5); (try have p5 : One w1.heap.size (.slice none 0 0) w5 := One.below (by with_reducible first | exact p4 | exact One.alloc p4 _ | exact One.alloc (One.alloc p4 _) _) h5); (try have p5' : One (w1.heap.size + 1) (.slice none 0 0) w5 := One.below (by with_reducible exact p4') h5); (try have p5a : One w4.heap.size (.slice none 0 0) w5 := One.below (by with_reducible first | exact One.new 118 | exact One.alloc (One.new 118) _) h5); (try have p5b : One (w4.heap.size + 1) (.slice none 0 0) w5 := One.below (by with_reducible exact One.new1 _ 118) h5); (try have hq5 : w1.heap.size < w5.heap.size := by omega); (try have hr5 : w1.heap.size + 1 < w5.heap.size := by omega); (try have hs5 : w4.heap.size < w5.heap.size := by omega); (try have ht5 : w4.heap.size + 1 < w5.heap.size := by omega); clear hf hp h5 hg))
  all_goals go_wp2_with fail
  all_goals go_meet
  all_goals
    exact LSt.pack (by with_reducible (first | exact SWp.alloc (SWp.alloc R4 _) _ | exact SWp.alloc (SWp.set R4 (by omega) _) _ | exact SWp.set (SWp.set R4 (by omega) _) (by omega) _)) (by with_reducible (first | exact SWp.alloc (SWp.alloc Q5 _) _ | exact SWp.alloc (SWp.set Q5 (by omega) _) _ | exact SWp.set (SWp.set Q5 (by omega) _) (by omega) _)) (by with_reducible (first | exact One.alloc (One.new 118) _ | exact One.new1 _ 118 | exact One.newS _ _ 118 | exact One.alloc (One.set p5 _) _ | exact One.set (One.other p5 (by omega) _) _ | exact One.other (One.set p5 _) (by omega) _ | exact One.alloc (One.set p5' _) _ | exact One.set (One.other p5' (by omega) _) _ | exact One.other (One.set p5' _) (by omega) _ | exact One.alloc (One.set p5a _) _ | exact One.set (One.other p5a (by omega) _) _ | exact One.other (One.set p5a _) (by omega) _ | exact One.alloc (One.set p5b _) _ | exact One.set (One.other p5b (by omega) _) _ | exact One.other (One.set p5b _) (by omega) _)) (by with_reducible (first | exact One.alloc (One.new 118) _ | exact One.new1 _ 118 | exact One.newS _ _ 118 | exact One.alloc (One.set p5 _) _ | exact One.set (One.other p5 (by omega) _) _ | exact One.other (One.set p5 _) (by omega) _ | exact One.alloc (One.set p5' _) _ | exact One.set (One.other p5' (by omega) _) _ | exact One.other (One.set p5' _) (by omega) _ | exact One.alloc (One.set p5a _) _ | exact One.set (One.other p5a (by omega) _) _ | exact One.other (One.set p5a _) (by omega) _ | exact One.alloc (One.set p5b _) _ | exact One.set (One.other p5b (by omega) _) _ | exact One.other (One.set p5b _) (by omega) _)) (by first | omega | (simp; done) | (simp; omega)) (by first | omega | (simp; done) | (simp; omega)) (by first | omega | (simp; done) | (simp; omega)) (by first | omega | (simp; done) | (simp; omega))
      (by with_reducible (first | exact N2d.bel (N2d.alloc (N2d.alloc S5 _) _) | exact N2d.bel (N2d.alloc (N2d.set S5 (by omega) _) _) | exact N2d.bel (N2d.set (N2d.set S5 (by omega) _) (by omega) _)))
end Go.Proofs.YtlhgpeelenelbaaDoor
