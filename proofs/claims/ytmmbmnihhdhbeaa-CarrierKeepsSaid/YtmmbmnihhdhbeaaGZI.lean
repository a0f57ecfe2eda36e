/- The law CarrierKeeps (promise 2.11: nothing gets lost) returns true for every works and every water, and leaves them as they read.
   Conditions: none beyond the given row's own (the program at the commit in COMMIT; arguments that lie in memory as the row says). -/
import Derived.Test.YtmmbmnihhdhbeaaGZH
namespace Go.Proofs.Ytmmbmnihhdhbeaa
open Go.RowKit

def WetPost (s : Wa) (w : World) (e : Ending) (w' : World) : Prop := ∃ b, e = .returned (.bool b) ∧ (b = true → s.river.length ≤ 100 ∧ s.boards.length ≤ 100 ∧ s.leaks.length ≤ 100 ∧ s.losses.length ≤ 100) ∧ Below w.heap.size w w'
set_option maxHeartbeats 8000000 in
set_option maxRecDepth 1000000 in
theorem wet_any (v : Value) (s : Wa) (w : World) (h : RWa w.heap.size v s w) : Calls Try.prog 19 #[v] w (WetPost s w) := by
  obtain ⟨A1, c1, A2, c2, A3, c3, A4, c4, rfl⟩ := h.form
  clear h
  have hs : (100 : Int) < (s.river.length : Int) ∨ ((s.river.length : Int) ≤ 100 ∧ (100 : Int) < (s.boards.length : Int)) ∨ ((s.river.length : Int) ≤ 100 ∧ (s.boards.length : Int) ≤ 100 ∧ (100 : Int) < (s.leaks.length : Int)) ∨ ((s.river.length : Int) ≤ 100 ∧ (s.boards.length : Int) ≤ 100 ∧ (s.leaks.length : Int) ≤ 100 ∧ (100 : Int) < (s.losses.length : Int)) ∨ ((s.river.length : Int) ≤ 100 ∧ (s.boards.length : Int) ≤ 100 ∧ (s.leaks.length : Int) ≤ 100 ∧ (s.losses.length : Int) ≤ 100) := by omega
  have HB : Hid (Below w.heap.size w (w.alloc (.cells #[.slice A1 s.river.length c1, .slice A2 s.boards.length c2, .slice A3 s.leaks.length c3, .slice A4 s.losses.length c4] 27))) := Lib.hid ((Below.refl _ _).alloc (Nat.le_refl _) _)
  rcases hs with h1 | ⟨h1, h2⟩ | ⟨h1, h2, h3⟩ | ⟨h1, h2, h3, h4⟩ | ⟨h1, h2, h3, h4⟩
  all_goals
    go_enter Try.func19, Try.ntmps19
    go_wp2_with fail
    go_ret
    first
      | exact ⟨false, rfl, (fun h => by cases h), HB.out⟩
      | exact ⟨true, rfl, (fun _ => by omega), HB.out⟩
      | exact ⟨_, rfl, (fun h => by have := of_decide_eq_true h; omega), HB.out⟩

/-- The sum of the first numbers, each of them at most M. -/
theorem sum_bound {l : List Int} {M : Int} (h : ∀ x ∈ l, 0 ≤ x ∧ x ≤ M) : ∀ k : Nat, k ≤ l.length → 0 ≤ (l.take k).sum ∧ (l.take k).sum ≤ k * M
  | 0, _ => by simp
  | k + 1, hk => by
    obtain ⟨x, hx⟩ : ∃ x, l[k]? = some x := ⟨_, List.getElem?_eq_getElem (by omega)⟩
    have ih := sum_bound h k (by omega)
    have hb := h x (List.mem_of_getElem? hx)
    rw [sum_take hx, show ((k + 1 : Nat) : Int) * M = k * M + M by rw [Int.natCast_succ, Int.add_mul, Int.one_mul]]
    omega
/-- What is lost, and what the first outlets let run into beds. -/
def outN (ws : Wk) (s : Wa) (n : Nat) : Int := (flowF ws s).lost + bedN (flowF ws s) ((allP ws).take n)
theorem outN_zero (ws : Wk) (s : Wa) : outN ws s 0 = (flowF ws s).lost := by simp [outN, bedN]
theorem outN_succ {ws : Wk} (s : Wa) {n : Nat} {p : Pl} (hp : (allP ws)[n]? = some p) {x : Int} (hx : (flowF ws s).thr[n]? = some x) : outN ws s (n + 1) = outN ws s n + if p.o.into < 0 then x else 0 := by
  have hat := (allP_inv hp).1
  unfold outN bedN
  rw [take_snoc_get hp, List.map_append, List.sum_append]
  simp only [List.map_cons, List.map_nil, List.sum_cons, List.sum_nil, Int.add_zero]
  rw [hat, List.getD_eq_getElem?_getD, hx]
  simp only [Option.getD_some]
  omega
theorem flow_get {ws : Wk} (hw : WOk ws) {s : Wa} (hs : WaOk ws s) {n : Nat} (hn : n < total ws) : ∃ x, (flowF ws s).thr[n]? = some x ∧ 0 ≤ x ∧ x ≤ 1048576 := by
  have hl : (flowF ws s).thr.length = total ws := thr_len ws s _ (Nat.le_refl _)
  obtain ⟨x, hx⟩ : ∃ x, (flowF ws s).thr[n]? = some x := ⟨_, List.getElem?_eq_getElem (by omega)⟩
  exact ⟨x, hx, (FB.flow hs hw _ (Nat.le_refl _)).r x (List.mem_of_getElem? hx)⟩
theorem outN_b {ws : Wk} (hw : WOk ws) {s : Wa} (hs : WaOk ws s) : ∀ n, n ≤ total ws → 0 ≤ outN ws s n ∧ outN ws s n ≤ 62914560 + n * 1048576
  | 0, _ => by
    have h := FB.flow hs hw (total ws) (Nat.le_refl _)
    have hl : (flowF ws s).thr.length = total ws := thr_len ws s _ (Nat.le_refl _)
    have h1 := h.l1
    have h0 := h.l0
    have ht := hw.tot
    rw [outN_zero]
    rw [show (flowTo ws s (total ws)) = flowF ws s from rfl] at h1 h0
    rw [hl] at h1
    omega
  | n + 1, hn => by
    obtain ⟨p, hp⟩ := at_total (ws := ws) (n := n) (by omega)
    obtain ⟨x, hx, x0, x1⟩ := flow_get hw hs (n := n) (by omega)
    have ih := outN_b hw hs n (by omega)
    rw [outN_succ s hp hx]
    split <;> omega
theorem tails_get {ws : Wk} (hw : WOk ws) {s : Wa} (hs : WaOk ws s) {k : Nat} (hk : k < ws.length) : ∃ x, (tailsL ws s)[k]? = some x ∧ 0 ≤ x ∧ x ≤ 1048576 :=
  ⟨(flowF ws s).t k, by unfold tailsL; rw [List.getElem?_map, List.getElem?_range hk]; rfl, (FB.flow hs hw _ (Nat.le_refl _)).t k⟩
theorem tails_b {ws : Wk} (hw : WOk ws) {s : Wa} (hs : WaOk ws s) : ∀ x ∈ tailsL ws s, 0 ≤ x ∧ x ≤ 1048576 := fun x hx => by
  unfold tailsL at hx
  obtain ⟨c, -, rfl⟩ := List.mem_map.1 hx
  exact (FB.flow hs hw _ (Nat.le_refl _)).t c
theorem tails_len (ws : Wk) (s : Wa) : (tailsL ws s).length = ws.length := by simp [tailsL]
theorem all_out {ws : Wk} (hw : WOk ws) {s : Wa} (hs : WaOk ws s) : outN ws s (total ws) + ((tailsL ws s).take ws.length).sum = s.river.sum := by
  have h := keeps hw hs (total ws) (Nat.le_refl _)
  rw [List.take_of_length_le (by rw [tails_len]; exact Nat.le_refl _)]
  have : (tailsL ws s).sum = sumR ws.length (flowTo ws s (total ws)).t := rfl
  rw [this]
  unfold outN
  have e : (flowTo ws s (total ws)).lost = (flowF ws s).lost := rfl
  omega

set_option maxHeartbeats 16000000 in
set_option maxRecDepth 1000000 in
theorem keeps_law (A : Option Addr) (c : Nat) (wv : Value) (ws : Wk) (s : Wa) (w : World) (h : RK w.heap.size (.slice A ws.length c) ws w) (hs : RWa w.heap.size wv s w) :
    Calls Try.prog 3 #[.agg #[.slice A ws.length c], wv] w fun e w' => e = .returned (.bool true) ∧ Below w.heap.size w w' := by
  obtain ⟨A1, c1, A2, c2, A3, c3, A4, c4, rfl⟩ := hs.form
  have H := Lib.hid h
  have HS := Lib.hid hs
  have S0 := Lib.hid (WW.new w (.slice A ws.length c) (.slice A1 s.river.length c1) (.slice A2 s.boards.length c2) (.slice A3 s.leaks.length c3) (.slice A4 s.losses.length c4))
  clear h hs
  go_enter Try.func3, Try.ntmps3
  go_wp2_with fail
  refine (few_any A ws.length c ws _ (H.out.up S0.out.bel.size S0.out.bel)).mono ?_
  rintro e w1 ⟨b, rfl, hfew, b1⟩
  have S1 := Lib.hid (S0.out.below b1)
  have HFEW := Lib.hid hfew
  clear hfew b1 S0
  cases b
  · go_wp2_with fail
    refine (sanity_any _).mono ?_
    rintro e w2 ⟨rfl, b2⟩
    have S2 := Lib.hid (S1.out.below b2)
    clear b2
    go_wp2_with fail
    go_ret
    exact ⟨rfl, S2.out.bel⟩
  have x1 := S1.out.r
  have x2 := S1.out.b
  have x3 := S1.out.k
  have x4 := S1.out.l
  go_wp2_with fail
  refine (wet_any _ s _ (HS.out.up S1.out.bel.size S1.out.bel)).mono ?_
  rintro e w2 ⟨b, rfl, hwet, b2⟩
  have S2 := Lib.hid (S1.out.below b2)
  have HWET := Lib.hid hwet
  clear hwet b2 x1 x2 x3 x4 S1
  cases b
  · go_wp2_with fail
    refine (sanity_any _).mono ?_
    rintro e w3 ⟨rfl, b2⟩
    have S3 := Lib.hid (S2.out.below b2)
    clear b2
    go_wp2_with fail
    go_ret
    exact ⟨rfl, S3.out.bel⟩
  have HT : Hid (total ws ≤ 100000) := Lib.hid (by have := (HFEW.out trivial).2.1; omega)
  obtain ⟨d, hd⟩ := WatIs.exists_ ws s
  have HD := Lib.hid hd
  have x0 := S2.out.wk
  have x1 := S2.out.r
  have x2 := S2.out.b
  have x3 := S2.out.k
  have x4 := S2.out.l
  clear hd
  go_wp2_with fail
  refine (Flow_any _ _ ws s d _ (H.out.up S2.out.bel.size S2.out.bel) (by have := HT.out; omega) (HS.out.up S2.out.bel.size S2.out.bel) HD.out).mono ?_
  rintro e w3 ⟨uf, rfl, hof, b2⟩
  have S3 := Lib.hid (S2.out.below b2)
  have OF := Lib.hid hof
  have x0 := S3.out.wk
  have x1 := S3.out.r
  have x2 := S3.out.b
  have x3 := S3.out.k
  have x4 := S3.out.l
  clear b2 hof S2
  go_wp2_with fail
  refine (Tails_any _ _ ws s d _ (H.out.up S3.out.bel.size S3.out.bel) (by have := HT.out; omega) (HS.out.up S3.out.bel.size S3.out.bel) HD.out).mono ?_
  rintro e w4 ⟨ut, rfl, hot, b2⟩
  have S4 := Lib.hid (S3.out.below b2)
  have OF := Lib.hid (OF.out.below b2)
  have OT := Lib.hid hot
  have x0 := S4.out.wk
  have x1 := S4.out.r
  have x2 := S4.out.b
  have x3 := S4.out.k
  have x4 := S4.out.l
  clear b2 hot S3
  go_wp2_with fail
  refine (Lost_any _ _ ws s d _ (H.out.up S4.out.bel.size S4.out.bel) (by have := HT.out; omega) (HS.out.up S4.out.bel.size S4.out.bel) HD.out).mono ?_
  rintro e w5 ⟨rfl, b2⟩
  have S5 := Lib.hid (S4.out.below b2)
  have OF := Lib.hid (OF.out.below b2)
  have OT := Lib.hid (OT.out.below b2)
  have x0 := S5.out.wk
  clear b2 x1 x2 x3 x4 S4
  by_cases hd0 : d = 0
  rotate_left
  · have hdb : (d != d) = false := by simp
    have hdc : (d != 0) = true := by rw [bne_iff_ne]; exact hd0
    go_wp2_with fail
    refine (sanity_any _).mono ?_
    rintro e w6 ⟨rfl, b2⟩
    have S6 := Lib.hid (S5.out.below b2)
    clear b2
    go_wp2_with fail
    go_ret
    exact ⟨rfl, S6.out.bel⟩
  subst hd0
  obtain ⟨hok, hwo⟩ := HD.out.ok
  have HOK := Lib.hid hok
  have HWO := Lib.hid hwo
  rw [okN_zero]
  rw [okL_zero] at OF OT
  have hlf : (flowF ws s).thr.length = total ws := thr_len ws s _ (Nat.le_refl _)
  have hlt : (tailsL ws s).length = ws.length := tails_len ws s
  obtain ⟨Af, cf, hf, -⟩ := OF.out.form
  obtain ⟨At, ct, ht, -⟩ := OT.out.form
  rw [hlf] at hf
  rw [hlt] at ht
  subst hf ht
  have RF := Lib.hid (OF.out.rr EI (by have := HT.out; rw [hlf]; show total ws ≤ 1000000000000000; omega))
  have RT := Lib.hid (OT.out.rr EI (by have := hok.len; rw [hlt]; show ws.length ≤ 1000000000000000; omega))
  have RV := Lib.hid (HS.out.parts.1.up S5.out.bel.size S5.out.bel)
  have KR := Lib.hid (H.out.up S5.out.bel.size S5.out.bel)
  have HALL := Lib.hid (all_out hok hwo)
  have x1 := S5.out.r
  clear hok hwo hlf hlt
  go_wp2_with fail
  go_loopw [11, 12] (fun a i wr => ∃ k : Nat, i = .int .i64 k ∧ k ≤ s.river.length ∧ a = .int .i64 (s.river.take k).sum ∧ wr = w5) (fun _ i _ => s.river.length - (intOf i).toNat)
  case atStart => exact ⟨0, rfl, by omega, rfl, rfl⟩
  case round =>
    obtain ⟨k, rfl, hk, rfl, rfl⟩ := hrel
    by_cases hkl : k < s.river.length
    · have hk0 : (k : Int) < (s.river.length : Int) := by omega
      obtain ⟨x, hx⟩ : ∃ x, s.river[k]? = some x := ⟨_, List.getElem?_eq_getElem hkl⟩
      obtain ⟨b, o, rfl, hb, q0⟩ := RV.out.int hx
      have hxb := HWO.out.rr x (List.mem_of_getElem? hx)
      have hsb := sum_bound HWO.out.rr k hk
      have h100 := (HWET.out trivial).1
      have HSX := Lib.hid (sum_take hx)
      clear hx
      generalize hR : (s.river.take k).sum = R at *
      go_wp2_with fail
      go_roundw
      case rel => exact ⟨k + 1, by go_num, by omega, by rw [HSX.out], trivial⟩
      case measure => show s.river.length - ((k : Int) + 1).toNat < s.river.length - (k : Int).toNat; omega
    · have hk0 : (s.river.length : Int) ≤ (k : Int) := by omega
      obtain rfl : k = s.river.length := by omega
      rw [List.take_of_length_le (Nat.le_refl _)]
      rw [← outN_zero ws s]
      have HRS : Hid (∃ R, s.river.sum = R) := Lib.hid ⟨_, rfl⟩
      obtain ⟨R, hR⟩ := HRS.out
      have HRR := Lib.hid hR
      rw [hR]
      clear hR HRS hk hkl hk0
      go_wp2_with fail
      go_loopw [13, 14, 15] (fun a k i wx => ∃ c : Nat, i = .int .i64 c ∧ c ≤ ws.length ∧ k = .int .i64 (pre ws c) ∧ a = .int .i64 (outN ws s (pre ws c)) ∧ wx = wr) (fun _ _ i _ => ws.length - (intOf i).toNat)
      case atStart => exact ⟨0, rfl, by omega, by rw [pre_zero]; rfl, by rw [pre_zero], rfl⟩
      case round =>
        obtain ⟨k, rfl, hk, rfl, rfl, rfl⟩ := hrel
        by_cases hkl : k < ws.length
        · have hk0 : (k : Int) < (ws.length : Int) := by omega
          obtain ⟨os, hos⟩ : ∃ os, ws[k]? = some os := ⟨_, List.getElem?_eq_getElem hkl⟩
          have HOS := Lib.hid hos
          have h16 := HOK.out.len
          clear hos
          go_wp2_with fail
          go_loopw [13, 14, 16] (fun a n i wy => ∃ j : Nat, i = .int .i64 j ∧ j ≤ os.length ∧ n = .int .i64 ((pre ws k + j : Nat) : Int) ∧ a = .int .i64 (outN ws s (pre ws k + j)) ∧ wy = wr) (fun _ _ i _ => os.length - (intOf i).toNat)
          case atStart => exact ⟨0, rfl, by omega, rfl, rfl, rfl⟩
          case round =>
            obtain ⟨j, rfl, hj, rfl, rfl, rfl⟩ := hrel
            obtain ⟨b, o, hA, hbB, u, hu, A1_, c1_, hu2, hou⟩ : ∃ b o, A = some ⟨b, o, none⟩ ∧ b < wr.heap.size ∧ ∃ u, wr.cell? ⟨b, o + k, none⟩ = some u ∧ ∃ A1_ c1_, u = .slice A1_ os.length c1_ ∧ RO wr.heap.size u os wr := by
              obtain ⟨A0, c0, e0, -, hx⟩ := KR.out
              obtain ⟨rfl, rfl⟩ : A = A0 ∧ c = c0 := by simpa using e0
              obtain ⟨b, o, e1, e2, e3⟩ := hx (by omega)
              obtain ⟨u, hu, hr⟩ := e3 k os HOS.out
              obtain ⟨a, cc, e⟩ := hr.slice
              exact ⟨b, o, e1, e2, u, hu, a, cc, e, hr⟩
            subst hA hu2
            by_cases hjl : j < os.length
            · have hj0 : (j : Int) < (os.length : Int) := by omega
              obtain ⟨p, hp⟩ : ∃ p, os[j]? = some p := ⟨_, List.getElem?_eq_getElem hjl⟩
              obtain ⟨_, _, e0, -, hy⟩ := hou
              obtain ⟨b1, o1, hA1, hb1, hc1⟩ := hy (by omega)
              obtain ⟨rfl, rfl⟩ : A1_ = _ ∧ c1_ = _ := by simpa using e0
              subst hA1
              have q1 := (hc1 j p hp).into
              have hpl := allP_get HOS.out hp
              have hnl := pre_lt HOS.out hjl
              obtain ⟨x, hx, hx0, hx1⟩ := flow_get HOK.out HWO.out hnl
              obtain ⟨bf, of, rfl, hbf, q2⟩ := RF.out.int hx
              have hs1 := outN_succ s hpl hx
              have hob := outN_b HOK.out HWO.out _ (Nat.le_of_lt hnl)
              have h60 := HOK.out.tot
              have HS1 := Lib.hid hs1
              have HNL := Lib.hid hnl
              have hnl0 : ((pre ws k + j : Nat) : Int) < (total ws : Int) := by omega
              have hn0 : (0 : Int) ≤ ((pre ws k + j : Nat) : Int) := by omega
              have hnn : ((pre ws k + j : Nat) : Int) ≤ 60 := by omega
              have hob1 : outN ws s (pre ws k + j) ≤ 1000000000 := by omega
              have hob0 := hob.1
              have hjm : (j : Int) ≤ 60 := by omega
              clear hob hc1 hy hx hpl hs1 e0 hnl hp
              obtain ⟨n, hn⟩ : ∃ n, pre ws k + j = n := ⟨_, rfl⟩
              have HN := Lib.hid hn
              rw [hn] at hnl0 hn0 hnn hob0 hob1 HS1 q2 ⊢
              obtain ⟨Q, hQ⟩ : ∃ Q, outN ws s n = Q := ⟨_, rfl⟩
              have HQ := Lib.hid hQ
              rw [hQ] at hob0 hob1 HS1 ⊢
              clear hn hQ
              by_cases hi : p.into < 0
              · go_wp2_with fail
                go_roundw
                case rel => exact ⟨j + 1, by go_num, by omega, by rw [← Nat.add_assoc, HN.out]; go_num, by rw [← Nat.add_assoc, HN.out, HS1.out, if_pos hi], trivial⟩
                case measure => show os.length - ((j : Int) + 1).toNat < os.length - (j : Int).toNat; omega
              · go_wp2_with fail
                go_roundw
                case rel => exact ⟨j + 1, by go_num, by omega, by rw [← Nat.add_assoc, HN.out]; go_num, by rw [← Nat.add_assoc, HN.out, HS1.out, if_neg hi, Int.add_zero], trivial⟩
                case measure => show os.length - ((j : Int) + 1).toNat < os.length - (j : Int).toNat; omega
            · have hj0 : (os.length : Int) ≤ (j : Int) := by omega
              obtain rfl : j = os.length := by omega
              clear hou
              have hps := pre_succ HOS.out
              rw [← hps]
              clear hps
              go_wp2_with fail
              go_roundw
              case rel => exact ⟨k + 1, by go_num, by omega, rfl, rfl, trivial⟩
              case measure => show ws.length - ((k : Int) + 1).toNat < ws.length - (k : Int).toNat; omega
        · have hk0 : (ws.length : Int) ≤ (k : Int) := by omega
          obtain rfl : k = ws.length := by omega
          rw [show pre ws ws.length = total ws from rfl]
          clear hk hkl hk0
          have HOB := Lib.hid (outN_b HOK.out HWO.out (total ws) (Nat.le_refl _))
          have HL0 := Lib.hid (FB.flow HWO.out HOK.out (total ws) (Nat.le_refl _)).l0
          obtain ⟨Q, hQ⟩ : ∃ Q, outN ws s (total ws) = Q := ⟨_, rfl⟩
          have HQ := Lib.hid hQ
          rw [hQ] at HALL HOB ⊢
          clear hQ
          go_wp2_with fail
          go_loopw [13, 17] (fun a i wx => ∃ k : Nat, i = .int .i64 k ∧ k ≤ ws.length ∧ a = .int .i64 (Q + ((tailsL ws s).take k).sum) ∧ wx = wr) (fun _ i _ => ws.length - (intOf i).toNat)
          case atStart => exact ⟨0, rfl, by omega, by simp, rfl⟩
          case round =>
            obtain ⟨k, rfl, hk, rfl, rfl⟩ := hrel
            have hsb := sum_bound (tails_b HOK.out HWO.out) k (by rw [tails_len]; exact hk)
            have hob := HOB.out
            have h16 := HOK.out.len
            have h60 := HOK.out.tot
            by_cases hkl : k < ws.length
            · have hk0 : (k : Int) < (ws.length : Int) := by omega
              obtain ⟨x, hx, hx0, hx1⟩ := tails_get HOK.out HWO.out hkl
              obtain ⟨b, o, rfl, hb, q0⟩ := RT.out.int hx
              have HSX := Lib.hid (sum_take hx)
              have hs0 := hsb.1
              have hs1 : (List.take k (tailsL ws s)).sum ≤ 16777216 := by omega
              have hq0 := hob.1
              have hq1 : Q ≤ 1000000000 := by omega
              clear hx hsb hob
              obtain ⟨T, hT⟩ : ∃ T, (List.take k (tailsL ws s)).sum = T := ⟨_, rfl⟩
              rw [hT] at HSX hs0 hs1 ⊢
              clear hT
              go_wp2_with fail
              go_roundw
              case rel => exact ⟨k + 1, by go_num, by omega, by rw [HSX.out, Int.add_assoc], trivial⟩
              case measure => show ws.length - ((k : Int) + 1).toNat < ws.length - (k : Int).toNat; omega
            · have hk0 : (ws.length : Int) ≤ (k : Int) := by omega
              obtain rfl : k = ws.length := by omega
              rw [HALL.out, HRR.out]
              have hl0 : 0 ≤ outN ws s 0 := by rw [outN_zero]; exact HL0.out
              clear hk hkl hk0 hsb hob
              go_wp2_with fail
              refine (sanity_any _).mono ?_
              rintro e w6 ⟨rfl, b2⟩
              have S6 := Lib.hid (S5.out.below b2)
              have x0 := S6.out.wk
              clear b2
              go_wp2_with fail
              go_ret
              exact ⟨rfl, S6.out.bel⟩
end Go.Proofs.Ytmmbmnihhdhbeaa

/- The law CarrierKeeps holds for every input: the row. -/
namespace Go.Proofs.Ytmmbmnihhdhbeaa
open Go.ChangeShapes Go.WideShapes Go.ChangeAt Go.RowKit Go.Joins

namespace carrierKeeps
def wargs : Array Value := #[.agg #[.slice none 0 0], .agg #[.slice none 0 0, .slice none 0 0, .slice none 0 0, .slice none 0 0]]
theorem laid_met (os : Os) : laidMet Try.prog Rows.carrierKeepsRow.laid ((World.holding Try.prog os ⟨#[], #[], []⟩).forCall (fun _ _ => 0) ⟨#[], wargs, []⟩).memory :=
  laidMet_of_run' 8 (by kernel_rfl) (by kernel_rfl)
theorem reads (os : Os) {H : Type} (enc : TypeId × Value → H) : ∃ places, DataW.whole enc Try.prog ((World.holding Try.prog os ⟨#[], #[], []⟩).forCall (fun _ _ => 0) ⟨#[], wargs, []⟩).memory Try.f3.params.toList Rows.carrierKeepsSpec.vars false wargs.toList 8 = some ([.agg [.nil], .agg [.nil, .nil, .nil, .nil]], [], places) :=
  ⟨[], by kernel_rfl⟩

set_option maxHeartbeats 1000000 in
set_option maxRecDepth 100000 in
/-- What the walk gives, for every argument. -/
theorem contract (H : Type) (enc : TypeId × Value → H) (W : World) (base : Nat) (args : Array Value) (ds gs : List (DataW H)) (before : List MemPlace)
    (hval : ∀ (j : Nat) t v, Try.f3.params[j]? = some t → args[j]? = some v → Value.okWide Try.prog W .any base t v)
    (hW : DataW.Whole enc Try.prog Try.f3.params.toList Rows.carrierKeepsSpec.vars false W args.toList ds gs before)
    (hwt : (DataW.weightsEach Try.prog (Try.f3.params.toList ++ DataSpec.varTypes Try.prog (OpenSpec.ofChange Rows.carrierKeepsSpec).bare.plain) (ds ++ gs)).all (· ≤ reachBytes) = true) :
    Calls Try.prog 3 args W fun e W' => ∃ v, e = .returned v ∧ Rows.carrierKeepsSpec.post enc Try.prog Try.f3 false true false false W args v W' := by
  have hW' := hW
  obtain ⟨p, q, hA0, hV, rfl, hfz, hnd⟩ := hW
  have hA : DataW.TrodAll enc Try.prog W 0 (fun _ => true) true Try.f3.params.toList args.toList ds p := hA0
  have hAk := hA
  have hsize : ∀ t ∈ Try.f3.params.toList, t < Try.prog.types.size := by rw [Try.params3]; decide +kernel
  have hwt' := hwt
  rw [Try.params3] at hA hval hwt'
  obtain ⟨v0, vs0, d0, ds0, p0, q0, hargs, rfl, rfl, h0, r0⟩ := trodAll_cons hA
  obtain ⟨v1, vs1, d1, ds1, p1, q1, rfl, rfl, rfl, h1, r1⟩ := trodAll_cons r0
  obtain ⟨rfl, rfl, rfl⟩ := trodAll_nil r1
  obtain rfl : args = #[v0, v1] := by cases args; simp_all
  obtain ⟨rfl, rfl⟩ := trodVars_none hV
  obtain ⟨A, c, ws, rfl, hk⟩ := works_open (hval 0 24 v0 rfl rfl) h0 (WB.each _ _ hwt' 0 _ _ rfl rfl)
  obtain ⟨s, hs⟩ := water_open (hval 1 27 v1 rfl rfl) h1 (WB.each _ _ hwt' 1 _ _ rfl rfl)
  have hcall := keeps_law A c v1 ws s W hk hs
  refine hcall.mono fun e W' ⟨he, hb⟩ => ?_
  subst he
  refine ⟨_, rfl, _, _, _, [], _, [], hW', ?_, args_again hb hsize hAk, ?_, hb.frame _, fun h => by cases h⟩
  · exact trodAll_cons_mk (shut_bool Try.underlying4 _) trodAll_mk0
  · rfl

set_option maxRecDepth 100000 in
theorem lifted (os : Os) (started : os.Started) (H : Type) (enc : TypeId × Value → H) (F : Stop.Interp) :
    ReturnsInHanded {} Try.checked os 3 .any ((OpenSpec.ofChange Rows.carrierKeepsSpec).preRow enc Try.prog Try.f3 Rows.carrierKeepsRow.domain false Rows.carrierKeepsRow.laid) (((OpenSpec.ofChange Rows.carrierKeepsSpec).at F).post enc Try.prog Try.f3 false true false false) := by
  obtain ⟨places, hx⟩ := reads os enc
  refine returnsInHanded_of_row (C := Try.checked) (s := OpenSpec.ofChange Rows.carrierKeepsSpec) own started (by kernel_rfl) Try.func3
    (witness_row_at (enc := enc) (C := Try.checked) false (World.holding Try.prog os ⟨#[], #[], []⟩) wargs rfl (by kernel_rfl) (by kernel_rfl) (by kernel_rfl)
      (OpenSpec.preRow_of_cond 8 hx (by kernel_rfl) (fun k hk => by cases hk) (by kernel_rfl) (laid_met os))) ?_
  intro W base args ds gs before hval hW _ _ hwt hL _ _
  exact contract H enc W base args ds gs before hval hW hwt

theorem said : Rows.CarrierKeepsSaid :=
  OpenClaim.holds_of_cond 3 Try.f3 rfl rfl rfl rfl rfl rfl rfl ⟨rfl, rfl, rfl, rfl, rfl⟩ rfl rfl rfl rfl rfl (by kernel_rfl) Try.func3 (by kernel_rfl)
    (of_decide_eq_true (by kernel_rfl)) (by unfold Func.isWrapper; first | (rw [if_pos (by decide +kernel)]; kernel_rfl) | (rw [if_neg (by decide +kernel)]; exact ⟨rfl, rfl⟩))
    (fun os started H enc _ F => by rw [OpenClaim.pre_eq_preRow]; exact lifted os started H enc F)
end carrierKeeps
theorem carrierKeeps_holds : Rows.CarrierKeepsSaid := carrierKeeps.said
end Go.Proofs.Ytmmbmnihhdhbeaa
