/- The law CarrierCases (promise 2.5): for all works, a case and water, CheckCase and Fits return what the specification returns; it returns true for every argument, and leaves them as they read.
   Conditions: none beyond the given row's own (the program at the commit in COMMIT; arguments that lie in memory as the row says). -/
import Derived.Test.YtkoacclbempmdaaGH
import Derived.Test.YtkoacclbempmdaaGS
import Derived.Test.YtkoacclbempmdaaOOK
import Derived.Test.YtkoacclbempmdaaGL
import Derived.Test.YtkoacclbempmdaaGK
import Derived.Test.YtkoacclbempmdaaGZL
namespace Go.Proofs.Ytkoacclbempmdaa
open Go.RowKit
theorem rk_at {B n c k : Nat} {A : Option Addr} {ws : Wk} {os : List Ou} {w : World} (h : RK B (.slice A n c) ws w) (hos : ws[k]? = some os) : ∃ b o, A = some ⟨b, o, none⟩ ∧ b < B ∧ ∃ u, w.cell? ⟨b, o + k, none⟩ = some u ∧ ∃ A1 c1, u = .slice A1 os.length c1 ∧ RO B u os w := by
  obtain ⟨A0, c0, e0, -, hx⟩ := h
  have hk := (List.getElem?_eq_some_iff.1 hos).1
  simp only [Value.slice.injEq] at e0
  obtain ⟨rfl, -, -⟩ := e0
  obtain ⟨b, o, e1, e2, e3⟩ := hx (by omega)
  obtain ⟨u, hu, hr⟩ := e3 k os hos
  obtain ⟨a, cc, e⟩ := hr.slice
  exact ⟨b, o, e1, e2, u, hu, a, cc, e, hr⟩
theorem ro_at {B n c j : Nat} {A : Option Addr} {os : List Ou} {p : Ou} {w : World} (h : RO B (.slice A n c) os w) (hp : os[j]? = some p) : ∃ b o, A = some ⟨b, o, none⟩ ∧ b < B ∧ OuAt B b (o + j * 7) p w := by
  obtain ⟨A0, c0, e0, -, hx⟩ := h
  have hj := (List.getElem?_eq_some_iff.1 hp).1
  simp only [Value.slice.injEq] at e0
  obtain ⟨rfl, -, -⟩ := e0
  obtain ⟨b, o, e1, e2, e3⟩ := hx (by omega)
  exact ⟨b, o, e1, e2, e3 j p hp⟩
theorem own_snoc {W : World} {base n : Nat} {v : Value} {l : List Int} {y : Int} (h : W.ownsRow base 3 1 v (n + 1) (l.flatMap encI ++ [.int .i64 y])) (hn : l.length = n) : OwnG encI 1 3 base v (l ++ [y]) W := by
  unfold OwnG
  rw [List.flatMap_append, List.length_append, hn]
  exact h
theorem new_set (W : World) (a : Addr) (v x : Value) (t : TypeId) (i : Nat) (u : Value) (hi : [x][i]? = some u) : ((W.setCell a v).alloc (.cells #[x] t)).cell? ((⟨W.heap.size, 0, none⟩ : Addr).add i) = some u := by
  have := one_news (W.setCell a v) x t i u hi
  rwa [show (W.setCell a v).heap.size = W.heap.size by simp] at this

end Go.Proofs.Ytkoacclbempmdaa

/- Contract of the specification's water. -/
namespace Go.Proofs.Ytkoacclbempmdaa
open Go.RowKit

set_option maxHeartbeats 800000 in
theorem within_same (n lo hi : Int) (w : World) : Calls Try.prog 129 #[.int .i64 n, .int .i64 lo, .int .i64 hi] w fun e w' => e = .returned (.bool (inB lo hi n)) ∧ w = w' := by
  have HV : Hid (∀ x, x = (inB lo hi n) → Ending.returned (.bool x) = .returned (.bool (inB lo hi n))) := Lib.hid fun x h => by rw [h]
  have hc : (lo ≤ n) ∨ (n < lo) := by omega
  generalize hb : (inB lo hi n) = r at HV ⊢
  have HB := Lib.hid hb
  clear hb
  rcases hc with h0 | h0
  all_goals
    go_enter Try.func129, Try.ntmps129
    go_wp2_with fail
    go_ret
    refine ⟨HV.out _ ?_, ?_⟩
    · rw [← HB.out, Bool.eq_iff_iff]
      simp [inB]
      try omega
    · rfl
theorem rl_in {base : Nat} {v u : Value} {ws : Wk} {B : Nat} {w W : World} (h : OwnG encO 7 42 base v (outs ws) W) (hk : RK B u ws w) (hb : Below B w W) (hB : B ≤ W.heap.size) (ht : total ws ≤ 100000) : RO W.heap.size v (outs ws) W := by
  refine RO.of_rr (h.rr EO (by rw [outs_len]; show total ws ≤ 1000000000000000; omega)) (fun x hx => (outs_ps hk x hx).up hB hb)

set_option maxHeartbeats 16000000 in
set_option maxRecDepth 1000000 in
theorem rwater_any (A : Option Addr) (c : Nat) (wv : Value) (ws : Wk) (s : Wa) (d : Int) (w : World) (h : RK w.heap.size (.slice A ws.length c) ws w) (hs : RWa w.heap.size wv s w) (hw : WOk ws) (hd : (WaOk ws s ∧ d = 0) ∨ (¬ WaOk ws s ∧ d = 1)) :
    Calls Try.prog 119 #[.agg #[.slice A ws.length c], wv] w fun e w' => e = .returned (.int .i64 d) ∧ Below w.heap.size w w' := by
  obtain ⟨A1, c1, A2, c2, A3, c3, A4, c4, rfl⟩ := hs.form
  have H := Lib.hid h
  have HS := Lib.hid hs
  have HW := Lib.hid hw
  rw [waOk_iff] at hd
  have HBB := Lib.hid hd
  have ht : total ws ≤ 100000 := by have := hw.tot; omega
  have hln : ws.length ≤ 100000 := by have := hw.len; omega
  have C1 := Lib.hid fun W (hb : Below w.heap.size w W) => routlets_any A ws.length c ws W (h.up hb.size hb) ht
  have C2 := Lib.hid fun W (hb : Below w.heap.size w W) => rheads_any A ws.length c ws W (h.up hb.size hb) ht hln
  have S0 := Lib.hid (WW.new w (.slice A ws.length c) (.slice A1 s.river.length c1) (.slice A2 s.boards.length c2) (.slice A3 s.leaks.length c3) (.slice A4 s.losses.length c4))
  clear h hs hw hd
  go_enter Try.func119, Try.ntmps119
  go_wp2_with fail
  refine (C1.out _ S0.out.bel).mono ?_
  rintro e w2 ⟨lv, rfl, hlv, b1⟩
  have S2 := Lib.hid (S0.out.below b1)
  have RL := Lib.hid (rl_in hlv (H.out.up S0.out.bel.size S0.out.bel) b1 b1.size ht)
  obtain ⟨Al, cl, rfl, -⟩ := hlv.form
  have hol := outs_len ws
  rw [hol] at RL ⊢
  clear hlv b1 ht hln
  have x0 := S2.out.wk
  have x1 := S2.out.r
  have x2 := S2.out.b
  have x3 := S2.out.k
  have x4 := S2.out.l
  obtain ⟨nh, hnh⟩ : ∃ nh, (headsL ws).length = nh := ⟨_, rfl⟩
  obtain ⟨nt, hnt⟩ : ∃ nt, total ws = nt := ⟨_, rfl⟩
  have HNH := Lib.hid hnh
  have HNT := Lib.hid hnt
  have HCH : Hid (∀ W, BelS w2 W → Calls Try.prog 103 #[.agg #[.slice A ws.length c]] W fun e w' => ∃ A' c', e = .returned (.slice A' nh c') ∧ Below W.heap.size W w') := Lib.hid fun W hb => (C2.out W (S2.out.bel.trans (hb.b.mono S2.out.bel.size))).mono fun e w' ⟨v, he, ho, hb'⟩ => by
    obtain ⟨A', c', hv, -⟩ := ho.form
    exact ⟨A', c', by rw [he, hv, hnh], hb'⟩
  rw [hnt] at RL ⊢
  clear hnh hnt hol C1 C2
  go_upto_region 2 with fail
  refine wp_region_held_drew (S := BelS w2) (by kernel_rfl) (BelS.drew0 _) (fun J0 => ?_)
  refine tw 0 14 J0 ?_ (hy := by intro w' hSw; have q1 := hSw.c x1; have q2 := hSw.c x2; have q3 := hSw.c x3; have q4 := hSw.c x4; have q0 := hSw.c x0; go_simp; try with_reducible rfl)
  try simp only [aS]
  refine tw 1 15 J0 ?_ (hy := by intro w' hSw; have q1 := hSw.c x1; have q2 := hSw.c x2; have q3 := hSw.c x3; have q4 := hSw.c x4; have q0 := hSw.c x0; go_simp; try with_reducible rfl)
  try simp only [aS]
  refine tw 2 16 J0 ?_ (hy := by intro w' hSw; have q1 := hSw.c x1; have q2 := hSw.c x2; have q3 := hSw.c x3; have q4 := hSw.c x4; have q0 := hSw.c x0; go_simp; try with_reducible rfl)
  try simp only [aS]
  refine tw 3 17 J0 ?_ (hy := by intro w' hSw; have q1 := hSw.c x1; have q2 := hSw.c x2; have q3 := hSw.c x3; have q4 := hSw.c x4; have q0 := hSw.c x0; go_simp; try with_reducible rfl)
  try simp only [aS]
  refine wpAnyH_ready (rs := [4]) (by kernel_rfl) (by simp) ?_
  refine AllReadyH.cons rfl (fun K hK => ?_) AllReadyH.nil
  go_simp
  refine (HCH.out _ J0).mono ?_
  rintro e wq1 ⟨Ah, ch, rfl, hq1⟩
  have J1 := J0.below hq1
  clear hq1
  refine hK.out _ _ J1 (fun _ => ?_)
  clear hK K
  try simp only [aS]
  refine tw 5 19 J1 ?_ (hy := by intro w' hSw; have q1 := hSw.c x1; have q2 := hSw.c x2; have q3 := hSw.c x3; have q4 := hSw.c x4; have q0 := hSw.c x0; go_simp; try with_reducible rfl)
  try simp only [aS]
  by_cases h0 : s.river.length = nh
  · have h0b : ((s.river.length : Int) != (nh : Int)) = false := (neqB _ _).2.2 h0
    refine tw 6 20 J1 ?_ (hy := by intro w' hSw; have q1 := hSw.c x1; have q2 := hSw.c x2; have q3 := hSw.c x3; have q4 := hSw.c x4; have q0 := hSw.c x0; go_simp; try with_reducible rfl)
    try simp only [aS]
    refine tw 7 21 J1 ?_ (hy := by intro w' hSw; have q1 := hSw.c x1; have q2 := hSw.c x2; have q3 := hSw.c x3; have q4 := hSw.c x4; have q0 := hSw.c x0; go_simp; try with_reducible rfl)
    try simp only [aS]
    refine tw 8 22 J1 ?_ (hy := by intro w' hSw; have q1 := hSw.c x1; have q2 := hSw.c x2; have q3 := hSw.c x3; have q4 := hSw.c x4; have q0 := hSw.c x0; go_simp; try with_reducible rfl)
    try simp only [aS]
    refine tw 9 23 J1 ?_ (hy := by intro w' hSw; have q1 := hSw.c x1; have q2 := hSw.c x2; have q3 := hSw.c x3; have q4 := hSw.c x4; have q0 := hSw.c x0; go_simp; try with_reducible rfl)
    try simp only [aS]
    refine tw 10 24 J1 ?_ (hy := by intro w' hSw; have q1 := hSw.c x1; have q2 := hSw.c x2; have q3 := hSw.c x3; have q4 := hSw.c x4; have q0 := hSw.c x0; go_simp; try with_reducible rfl)
    try simp only [aS]
    refine tw 11 25 J1 ?_ (hy := by intro w' hSw; have q1 := hSw.c x1; have q2 := hSw.c x2; have q3 := hSw.c x3; have q4 := hSw.c x4; have q0 := hSw.c x0; go_simp; try with_reducible rfl)
    try simp only [aS]
    refine tw 12 26 J1 ?_ (hy := by intro w' hSw; have q1 := hSw.c x1; have q2 := hSw.c x2; have q3 := hSw.c x3; have q4 := hSw.c x4; have q0 := hSw.c x0; go_simp; try with_reducible rfl)
    try simp only [aS]
    by_cases h1 : s.boards.length = nt
    · have h1b : ((s.boards.length : Int) != (nt : Int)) = false := (neqB _ _).2.2 h1
      refine tw 13 27 J1 ?_ (hy := by intro w' hSw; have q1 := hSw.c x1; have q2 := hSw.c x2; have q3 := hSw.c x3; have q4 := hSw.c x4; have q0 := hSw.c x0; go_simp; try with_reducible rfl)
      try simp only [aS]
      refine tw 14 28 J1 ?_ (hy := by intro w' hSw; have q1 := hSw.c x1; have q2 := hSw.c x2; have q3 := hSw.c x3; have q4 := hSw.c x4; have q0 := hSw.c x0; go_simp; try with_reducible rfl)
      try simp only [aS]
      refine tw 15 29 J1 ?_ (hy := by intro w' hSw; have q1 := hSw.c x1; have q2 := hSw.c x2; have q3 := hSw.c x3; have q4 := hSw.c x4; have q0 := hSw.c x0; go_simp; try with_reducible rfl)
      try simp only [aS]
      refine tw 16 30 J1 ?_ (hy := by intro w' hSw; have q1 := hSw.c x1; have q2 := hSw.c x2; have q3 := hSw.c x3; have q4 := hSw.c x4; have q0 := hSw.c x0; go_simp; try with_reducible rfl)
      try simp only [aS]
      refine tw 17 31 J1 ?_ (hy := by intro w' hSw; have q1 := hSw.c x1; have q2 := hSw.c x2; have q3 := hSw.c x3; have q4 := hSw.c x4; have q0 := hSw.c x0; go_simp; try with_reducible rfl)
      try simp only [aS]
      refine tw 18 32 J1 ?_ (hy := by intro w' hSw; have q1 := hSw.c x1; have q2 := hSw.c x2; have q3 := hSw.c x3; have q4 := hSw.c x4; have q0 := hSw.c x0; go_simp; try with_reducible rfl)
      try simp only [aS]
      refine tw 19 33 J1 ?_ (hy := by intro w' hSw; have q1 := hSw.c x1; have q2 := hSw.c x2; have q3 := hSw.c x3; have q4 := hSw.c x4; have q0 := hSw.c x0; go_simp; try with_reducible rfl)
      try simp only [aS]
      refine tw 20 34 J1 ?_ (hy := by intro w' hSw; have q1 := hSw.c x1; have q2 := hSw.c x2; have q3 := hSw.c x3; have q4 := hSw.c x4; have q0 := hSw.c x0; go_simp; try with_reducible rfl)
      try simp only [aS]
      by_cases h2 : s.leaks.length = nt
      · have h2b : ((s.leaks.length : Int) != (nt : Int)) = false := (neqB _ _).2.2 h2
        refine tw 21 35 J1 ?_ (hy := by intro w' hSw; have q1 := hSw.c x1; have q2 := hSw.c x2; have q3 := hSw.c x3; have q4 := hSw.c x4; have q0 := hSw.c x0; go_simp; try with_reducible rfl)
        try simp only [aS]
        refine tw 22 36 J1 ?_ (hy := by intro w' hSw; have q1 := hSw.c x1; have q2 := hSw.c x2; have q3 := hSw.c x3; have q4 := hSw.c x4; have q0 := hSw.c x0; go_simp; try with_reducible rfl)
        try simp only [aS]
        refine tw 23 37 J1 ?_ (hy := by intro w' hSw; have q1 := hSw.c x1; have q2 := hSw.c x2; have q3 := hSw.c x3; have q4 := hSw.c x4; have q0 := hSw.c x0; go_simp; try with_reducible rfl)
        try simp only [aS]
        refine tw 24 38 J1 ?_ (hy := by intro w' hSw; have q1 := hSw.c x1; have q2 := hSw.c x2; have q3 := hSw.c x3; have q4 := hSw.c x4; have q0 := hSw.c x0; go_simp; try with_reducible rfl)
        try simp only [aS]
        refine tw 25 39 J1 ?_ (hy := by intro w' hSw; have q1 := hSw.c x1; have q2 := hSw.c x2; have q3 := hSw.c x3; have q4 := hSw.c x4; have q0 := hSw.c x0; go_simp; try with_reducible rfl)
        try simp only [aS]
        refine tw 26 40 J1 ?_ (hy := by intro w' hSw; have q1 := hSw.c x1; have q2 := hSw.c x2; have q3 := hSw.c x3; have q4 := hSw.c x4; have q0 := hSw.c x0; go_simp; try with_reducible rfl)
        try simp only [aS]
        refine tw 27 41 J1 ?_ (hy := by intro w' hSw; have q1 := hSw.c x1; have q2 := hSw.c x2; have q3 := hSw.c x3; have q4 := hSw.c x4; have q0 := hSw.c x0; go_simp; try with_reducible rfl)
        try simp only [aS]
        refine tw 28 42 J1 ?_ (hy := by intro w' hSw; have q1 := hSw.c x1; have q2 := hSw.c x2; have q3 := hSw.c x3; have q4 := hSw.c x4; have q0 := hSw.c x0; go_simp; try with_reducible rfl)
        try simp only [aS]
        by_cases h3 : s.losses.length = nt
        · have h3b : ((s.losses.length : Int) != (nt : Int)) = false := (neqB _ _).2.2 h3
          refine tw 29 43 J1 ?_ (hy := by intro w' hSw; have q1 := hSw.c x1; have q2 := hSw.c x2; have q3 := hSw.c x3; have q4 := hSw.c x4; have q0 := hSw.c x0; go_simp; try with_reducible rfl)
          try simp only [aS]
          refine tw 30 44 J1 ?_ (hy := by intro w' hSw; have q1 := hSw.c x1; have q2 := hSw.c x2; have q3 := hSw.c x3; have q4 := hSw.c x4; have q0 := hSw.c x0; go_simp; try with_reducible rfl)
          try simp only [aS]
          refine wpAnyH_done (by kernel_rfl) ?_ _
          have S3 := Lib.hid (S2.out.below (BelS.b J1))
          have RL := Lib.hid (RL.out.up (BelS.b J1).size (BelS.b J1))
          obtain ⟨w3, hw3⟩ : ∃ w3, wq1 = w3 := ⟨_, rfl⟩
          rw [hw3] at S3 RL ⊢
          clear hw3 x0 x1 x2 x3 x4 J0 J1
          have HBB2 : Hid ((((∀ x ∈ s.river, inB 0 1048576 x = true) ∧ ∀ p ∈ allP ws, okW s p = true) ∧ d = 0) ∨ (¬ ((∀ x ∈ s.river, inB 0 1048576 x = true) ∧ ∀ p ∈ allP ws, okW s p = true) ∧ d = 1)) := Lib.hid (by have := HBB.out; rw [HNH.out, HNT.out] at this; exact this.imp (fun h => ⟨⟨h.1.2.2.2.2.1, h.1.2.2.2.2.2⟩, h.2⟩) (fun h => ⟨fun hx => h.1 ⟨h0, h1, h2, h3, hx.1, hx.2⟩, h.2⟩))
          have HLN := Lib.hid (And.intro h1 (And.intro h2 h3))
          have hnr : (s.river.length : Int) ≤ 100000 := by have := HNH.out; have := headsL_len HW.out; omega
          have hntt : (nt : Int) ≤ 60 := by have := HNT.out; have := HW.out.tot; omega
          clear h0 h1 h2 h3 h0b h1b h2b h3b
          go_wp2_with fail
          go_loopw [6] (fun i wr => ∃ k : Nat, i = .int .i64 k ∧ k ≤ s.river.length ∧ (∀ j x, j < k → s.river[j]? = some x → inB 0 1048576 x = true) ∧ wr = w3) (fun i _ => s.river.length - (intOf i).toNat)
          case atStart => exact ⟨0, rfl, by omega, fun j x h => by omega, rfl⟩
          case round =>
            obtain ⟨k, rfl, hk, hok, rfl⟩ := hrel
            have HOK := Lib.hid hok
            have x1 := S3.out.r
            clear hok
            by_cases hkl : k < s.river.length
            · have hk0 : (k : Int) < (s.river.length : Int) := by omega
              obtain ⟨x, hx⟩ : ∃ x, s.river[k]? = some x := ⟨_, List.getElem?_eq_getElem hkl⟩
              obtain ⟨b, o, rfl, hb, q0⟩ := (HS.out.parts.1.up S3.out.bel.size S3.out.bel).int hx
              have HX := Lib.hid hx
              clear hx
              go_wp2_with fail
              refine (within_same x 0 1048576 _).mono ?_
              rintro e w4 ⟨rfl, rfl⟩
              by_cases hin : inB 0 1048576 x = true
              · rw [hin]
                have HIN := Lib.hid hin
                clear hin
                go_wp2_with fail
                go_roundw
                case rel => exact ⟨k + 1, by go_num, by omega, fun j y hj hy => by
                  rcases Nat.lt_or_ge j k with h | h
                  · exact HOK.out j y h hy
                  · obtain rfl : j = k := by omega
                    rw [HX.out] at hy
                    cases hy
                    exact HIN.out, trivial⟩
                case measure => show s.river.length - ((k : Int) + 1).toNat < s.river.length - (k : Int).toNat; omega
              · rw [Bool.not_eq_true] at hin
                have HF : Hid (d = 1) := Lib.hid (HBB2.out.elim (fun hx => by have := hx.1.1 x (List.mem_of_getElem? HX.out); rw [hin] at this; cases this) (·.2))
                rw [hin]
                clear hin
                go_wp2_with fail
                go_ret
                exact ⟨by rw [HF.out]; try rfl, S3.out.bel⟩
            · have hk0 : (s.river.length : Int) ≤ (k : Int) := by omega
              obtain rfl : k = s.river.length := by omega
              go_wp2_with fail
              go_loopw [8] (fun i wx => ∃ k : Nat, i = .int .i64 k ∧ k ≤ nt ∧ (∀ j p, j < k → (allP ws)[j]? = some p → okW s p = true) ∧ WW w (.slice A ws.length c) (.slice A1 s.river.length c1) (.slice A2 s.boards.length c2) (.slice A3 s.leaks.length c3) (.slice A4 s.losses.length c4) wx ∧ RO wx.heap.size (.slice Al nt cl) (outs ws) wx) (fun i _ => nt - (intOf i).toNat)
              case atStart => exact ⟨0, rfl, by omega, fun j x h => by omega, S3.out, RL.out⟩
              case round =>
                obtain ⟨k, rfl, hk', hok, hS4, hRL⟩ := hrel
                have HOK2 := Lib.hid hok
                have S4 := Lib.hid hS4
                have RL4 := Lib.hid hRL
                clear hok hS4 hRL
                have x1 := S4.out.r
                have x2 := S4.out.b
                have x3 := S4.out.k
                have x4 := S4.out.l
                by_cases hkl : k < nt
                · have hk0 : (k : Int) < (nt : Int) := by omega
                  obtain ⟨p, hp⟩ := at_total (ws := ws) (n := k) (by rw [HNT.out]; exact hkl)
                  have hpo := (outs_get hp).1
                  obtain ⟨b1, o1, hA1, hb1, hc1⟩ := ro_at RL4.out hpo
                  subst hA1
                  have p2 : wr.cell? ⟨b1, o1 + k * 7 + 2, none⟩ = some (.slice p.o.pa p.o.ps.length p.o.pc) := hc1.pv
                  have p3 := hc1.k0
                  have p4 : wr.cell? ⟨b1, o1 + k * 7 + 3 + 1, none⟩ = some (.int .i64 p.o.k1) := hc1.k1
                  have p5 := hc1.s0
                  have p6 : wr.cell? ⟨b1, o1 + k * 7 + 5 + 1, none⟩ = some (.int .i64 p.o.s1) := hc1.s1
                  have hpl := hc1.ps.fits
                  have hpl0 : (p.o.ps.length : Int) ≤ 1000000000000000 := by unfold Fits at hpl; omega
                  have hat := (allP_inv hp).1
                  obtain ⟨bd, hbd⟩ : ∃ x, s.boards[k]? = some x := ⟨_, List.getElem?_eq_getElem (by have := HLN.out.1; omega)⟩
                  obtain ⟨lk, hlk⟩ : ∃ x, s.leaks[k]? = some x := ⟨_, List.getElem?_eq_getElem (by have := HLN.out.2.1; omega)⟩
                  obtain ⟨ls, hls⟩ : ∃ x, s.losses[k]? = some x := ⟨_, List.getElem?_eq_getElem (by have := HLN.out.2.2; omega)⟩
                  obtain ⟨br, or, rfl, hbr, y1⟩ := (HS.out.parts.2.1.up S4.out.bel.size S4.out.bel).int hbd
                  obtain ⟨bk, ok, rfl, hbk, y2⟩ := (HS.out.parts.2.2.1.up S4.out.bel.size S4.out.bel).int hlk
                  obtain ⟨bl, ol, rfl, hbll, y3⟩ := (HS.out.parts.2.2.2.up S4.out.bel.size S4.out.bel).int hls
                  have hn1 : (k : Int) < (s.boards.length : Int) := by have := HLN.out.1; omega
                  have hn2 : (k : Int) < (s.leaks.length : Int) := by have := HLN.out.2.1; omega
                  have hn3 : (k : Int) < (s.losses.length : Int) := by have := HLN.out.2.2; omega
                  have HOW : Hid (okW s p = (inB 0 ((p.o.ps.length : Int) - 1) bd && (inB p.o.k0 p.o.k1 lk && inB p.o.s0 p.o.s1 ls))) := Lib.hid (by unfold okW; rw [hat, getD_of hbd, getD_of hlk, getD_of hls])
                  have HP := Lib.hid hp
                  have hwr1 : IntKind.i64.wrap ((p.o.ps.length : Int) - 1) = (p.o.ps.length : Int) - 1 := IntWalk.i64_in _ (by omega)
                  obtain ⟨n, hn⟩ : ∃ n, p.o.ps.length = n := ⟨_, rfl⟩
                  rw [hn] at p2 hpl0 hwr1 HOW
                  obtain ⟨i1, hi1⟩ : ∃ i, inB 0 ((n : Int) - 1) bd = i := ⟨_, rfl⟩
                  obtain ⟨i2, hi2⟩ : ∃ i, inB p.o.k0 p.o.k1 lk = i := ⟨_, rfl⟩
                  obtain ⟨i3, hi3⟩ : ∃ i, inB p.o.s0 p.o.s1 ls = i := ⟨_, rfl⟩
                  have C1 := Lib.hid fun W => within_same bd 0 ((n : Int) - 1) W
                  have C2 := Lib.hid fun W => within_same lk p.o.k0 p.o.k1 W
                  have C3 := Lib.hid fun W => within_same ls p.o.s0 p.o.s1 W
                  rw [hi1] at C1 HOW
                  rw [hi2] at C2 HOW
                  rw [hi3] at C3 HOW
                  clear hp hpo hc1 hbd hlk hls hat hpl hbr hbk hbll hn hi1 hi2 hi3 hb1
                  go_wp2_with fail
                  go_quiet ((go_at_call 129; exact Calls.quiet_of_same (flip_same (C1.out _))))
                  obtain ⟨Y1, hY1⟩ : ∃ Y, wr.drewN nq = Y := ⟨_, rfl⟩
                  have bY1 : Below wr.heap.size wr Y1 := by rw [← hY1]; exact below_drewN (Below.refl _ _) _
                  rw [hY1]
                  clear hY1
                  replace x3 := BelS.c bY1 x3
                  replace x4 := BelS.c bY1 x4
                  replace p3 := BelS.c bY1 p3
                  replace p4 := BelS.c bY1 p4
                  replace p5 := BelS.c bY1 p5
                  replace p6 := BelS.c bY1 p6
                  replace y2 := BelS.c bY1 y2
                  replace y3 := BelS.c bY1 y3
                  go_wp2_with fail
                  go_quiet ((go_at_call 129; exact Calls.quiet_of_same (flip_same (C2.out _))))
                  obtain ⟨Y2, hY2⟩ : ∃ Y, Y1.drewN nq = Y := ⟨_, rfl⟩
                  have bY2 : Below Y1.heap.size Y1 Y2 := by rw [← hY2]; exact below_drewN (Below.refl _ _) _
                  rw [hY2]
                  clear hY2
                  replace x4 := BelS.c bY2 x4
                  replace p5 := BelS.c bY2 p5
                  replace p6 := BelS.c bY2 p6
                  replace y3 := BelS.c bY2 y3
                  go_wp2_with fail
                  go_quiet ((go_at_call 129; exact Calls.quiet_of_same (flip_same (C3.out _))))
                  obtain ⟨Y3, hY3⟩ : ∃ Y, Y2.drewN nq = Y := ⟨_, rfl⟩
                  have bY3 : Below Y2.heap.size Y2 Y3 := by rw [← hY3]; exact below_drewN (Below.refl _ _) _
                  rw [hY3]
                  clear hY3
                  replace S4 := Lib.hid (((S4.out.below bY1).below bY2).below bY3)
                  replace RL4 := Lib.hid (((RL4.out.up bY1.size bY1).up bY2.size bY2).up bY3.size bY3)
                  clear C1 C2 C3 x1 x2 x3 x4 p2 p3 p4 p5 p6 y1 y2 y3 bY1 bY2 bY3
                  have hx : (i1 = true ∧ i2 = true ∧ i3 = true) ∨ (i1 && (i2 && i3)) = false := by cases i1 <;> cases i2 <;> cases i3 <;> simp
                  rcases hx with ⟨rfl, rfl, rfl⟩ | hx
                  · have HOK3 : Hid (okW s p = true) := Lib.hid HOW.out
                    go_wp2_with fail
                    go_roundw
                    case rel => exact ⟨k + 1, by go_num, by omega, fun j q hj hq => by
                      rcases Nat.lt_or_ge j k with h | h
                      · exact HOK2.out j q h hq
                      · obtain rfl : j = k := by omega
                        rw [HP.out] at hq
                        cases hq
                        exact HOK3.out, S4.out, RL4.out⟩
                    case measure => show nt - ((k : Int) + 1).toNat < nt - (k : Int).toNat; omega
                  · have HF : Hid (d = 1) := Lib.hid (HBB2.out.elim (fun hy => by have := hy.1.2 p (List.mem_of_getElem? HP.out); rw [HOW.out, hx] at this; cases this) (·.2))
                    clear HOW
                    cases i1 <;> cases i2 <;> cases i3 <;> simp only [Bool.and_self, Bool.and_true, Bool.and_false, Bool.false_and, Bool.true_and, Bool.true_eq_false, reduceCtorEq] at hx
                    all_goals go_wp2_with fail
                    all_goals go_ret
                    all_goals exact ⟨by rw [HF.out]; try rfl, S4.out.bel⟩
                · have hk0 : (nt : Int) ≤ (k : Int) := by omega
                  obtain rfl : k = nt := by omega
                  have HF : Hid (d = 0) := Lib.hid (HBB2.out.elim (·.2) (fun hx => absurd ⟨fun x hx => by
                    obtain ⟨i, hi⟩ := List.mem_iff_getElem?.1 hx
                    exact HOK.out i x (List.getElem?_eq_some_iff.1 hi).1 hi, fun p hp => by
                    obtain ⟨i, hi⟩ := List.mem_iff_getElem?.1 hp
                    exact HOK2.out i p (by have := lt_total hi; rw [HNT.out] at this; exact this) hi⟩ hx.1))
                  go_wp2_with fail
                  go_ret
                  exact ⟨by rw [HF.out]; try rfl, S4.out.bel⟩
        · have h3b : ((s.losses.length : Int) != (nt : Int)) = true := (neqB _ _).1.2 h3
          have HF : Hid (d = 1) := Lib.hid (HBB.out.elim (fun hx => by rw [HNH.out, HNT.out] at hx; exact absurd hx.1.2.2.2.1 h3) (·.2))
          refine tw 29 43 J1 ?_ (hy := by intro w' hSw; have q1 := hSw.c x1; have q2 := hSw.c x2; have q3 := hSw.c x3; have q4 := hSw.c x4; have q0 := hSw.c x0; go_simp; try with_reducible rfl)
          try simp only [aS]
          refine tw 30 44 J1 ?_ (hy := by intro w' hSw; have q1 := hSw.c x1; have q2 := hSw.c x2; have q3 := hSw.c x3; have q4 := hSw.c x4; have q0 := hSw.c x0; go_simp; try with_reducible rfl)
          try simp only [aS]
          refine wpAnyH_done (by kernel_rfl) ?_ _
          have BE := Lib.hid (S2.out.bel.trans ((BelS.b J1).mono S2.out.bel.size))
          clear x0 x1 x2 x3 x4
          go_wp2_with fail
          go_ret
          exact ⟨by rw [HF.out]; try rfl, BE.out⟩
      · have h2b : ((s.leaks.length : Int) != (nt : Int)) = true := (neqB _ _).1.2 h2
        have HF : Hid (d = 1) := Lib.hid (HBB.out.elim (fun hx => by rw [HNH.out, HNT.out] at hx; exact absurd hx.1.2.2.1 h2) (·.2))
        refine tw 21 35 J1 ?_ (hy := by intro w' hSw; have q1 := hSw.c x1; have q2 := hSw.c x2; have q3 := hSw.c x3; have q4 := hSw.c x4; have q0 := hSw.c x0; go_simp; try with_reducible rfl)
        try simp only [aS]
        refine tw 22 36 J1 ?_ (hy := by intro w' hSw; have q1 := hSw.c x1; have q2 := hSw.c x2; have q3 := hSw.c x3; have q4 := hSw.c x4; have q0 := hSw.c x0; go_simp; try with_reducible rfl)
        try simp only [aS]
        refine tw 23 37 J1 ?_ (hy := by intro w' hSw; have q1 := hSw.c x1; have q2 := hSw.c x2; have q3 := hSw.c x3; have q4 := hSw.c x4; have q0 := hSw.c x0; go_simp; try with_reducible rfl)
        try simp only [aS]
        refine sw 24 38 J1 ?_
        try simp only [aS]
        refine sw 25 39 J1 ?_
        try simp only [aS]
        refine sw 26 40 J1 ?_
        try simp only [aS]
        refine sw 27 41 J1 ?_
        try simp only [aS]
        refine sw 28 42 J1 ?_
        try simp only [aS]
        refine sw 29 43 J1 ?_
        try simp only [aS]
        refine tw 30 44 J1 ?_ (hy := by intro w' hSw; have q1 := hSw.c x1; have q2 := hSw.c x2; have q3 := hSw.c x3; have q4 := hSw.c x4; have q0 := hSw.c x0; go_simp; try with_reducible rfl)
        try simp only [aS]
        refine wpAnyH_done (by kernel_rfl) ?_ _
        have BE := Lib.hid (S2.out.bel.trans ((BelS.b J1).mono S2.out.bel.size))
        clear x0 x1 x2 x3 x4
        go_wp2_with fail
        go_ret
        exact ⟨by rw [HF.out]; try rfl, BE.out⟩
    · have h1b : ((s.boards.length : Int) != (nt : Int)) = true := (neqB _ _).1.2 h1
      have HF : Hid (d = 1) := Lib.hid (HBB.out.elim (fun hx => by rw [HNH.out, HNT.out] at hx; exact absurd hx.1.2.1 h1) (·.2))
      refine tw 13 27 J1 ?_ (hy := by intro w' hSw; have q1 := hSw.c x1; have q2 := hSw.c x2; have q3 := hSw.c x3; have q4 := hSw.c x4; have q0 := hSw.c x0; go_simp; try with_reducible rfl)
      try simp only [aS]
      refine tw 14 28 J1 ?_ (hy := by intro w' hSw; have q1 := hSw.c x1; have q2 := hSw.c x2; have q3 := hSw.c x3; have q4 := hSw.c x4; have q0 := hSw.c x0; go_simp; try with_reducible rfl)
      try simp only [aS]
      refine tw 15 29 J1 ?_ (hy := by intro w' hSw; have q1 := hSw.c x1; have q2 := hSw.c x2; have q3 := hSw.c x3; have q4 := hSw.c x4; have q0 := hSw.c x0; go_simp; try with_reducible rfl)
      try simp only [aS]
      refine sw 16 30 J1 ?_
      try simp only [aS]
      refine sw 17 31 J1 ?_
      try simp only [aS]
      refine sw 18 32 J1 ?_
      try simp only [aS]
      refine sw 19 33 J1 ?_
      try simp only [aS]
      refine sw 20 34 J1 ?_
      try simp only [aS]
      refine sw 21 35 J1 ?_
      try simp only [aS]
      refine tw 22 36 J1 ?_ (hy := by intro w' hSw; have q1 := hSw.c x1; have q2 := hSw.c x2; have q3 := hSw.c x3; have q4 := hSw.c x4; have q0 := hSw.c x0; go_simp; try with_reducible rfl)
      try simp only [aS]
      refine tw 23 37 J1 ?_ (hy := by intro w' hSw; have q1 := hSw.c x1; have q2 := hSw.c x2; have q3 := hSw.c x3; have q4 := hSw.c x4; have q0 := hSw.c x0; go_simp; try with_reducible rfl)
      try simp only [aS]
      refine sw 24 38 J1 ?_
      try simp only [aS]
      refine sw 25 39 J1 ?_
      try simp only [aS]
      refine sw 26 40 J1 ?_
      try simp only [aS]
      refine sw 27 41 J1 ?_
      try simp only [aS]
      refine sw 28 42 J1 ?_
      try simp only [aS]
      refine sw 29 43 J1 ?_
      try simp only [aS]
      refine tw 30 44 J1 ?_ (hy := by intro w' hSw; have q1 := hSw.c x1; have q2 := hSw.c x2; have q3 := hSw.c x3; have q4 := hSw.c x4; have q0 := hSw.c x0; go_simp; try with_reducible rfl)
      try simp only [aS]
      refine wpAnyH_done (by kernel_rfl) ?_ _
      have BE := Lib.hid (S2.out.bel.trans ((BelS.b J1).mono S2.out.bel.size))
      clear x0 x1 x2 x3 x4
      go_wp2_with fail
      go_ret
      exact ⟨by rw [HF.out]; try rfl, BE.out⟩
  · have h0b : ((s.river.length : Int) != (nh : Int)) = true := (neqB _ _).1.2 h0
    have HF : Hid (d = 1) := Lib.hid (HBB.out.elim (fun hx => by rw [HNH.out, HNT.out] at hx; exact absurd hx.1.1 h0) (·.2))
    refine tw 6 20 J1 ?_ (hy := by intro w' hSw; have q1 := hSw.c x1; have q2 := hSw.c x2; have q3 := hSw.c x3; have q4 := hSw.c x4; have q0 := hSw.c x0; go_simp; try with_reducible rfl)
    try simp only [aS]
    refine tw 7 21 J1 ?_ (hy := by intro w' hSw; have q1 := hSw.c x1; have q2 := hSw.c x2; have q3 := hSw.c x3; have q4 := hSw.c x4; have q0 := hSw.c x0; go_simp; try with_reducible rfl)
    try simp only [aS]
    refine sw 8 22 J1 ?_
    try simp only [aS]
    refine sw 9 23 J1 ?_
    try simp only [aS]
    refine sw 10 24 J1 ?_
    try simp only [aS]
    refine sw 11 25 J1 ?_
    try simp only [aS]
    refine sw 12 26 J1 ?_
    try simp only [aS]
    refine sw 13 27 J1 ?_
    try simp only [aS]
    refine tw 14 28 J1 ?_ (hy := by intro w' hSw; have q1 := hSw.c x1; have q2 := hSw.c x2; have q3 := hSw.c x3; have q4 := hSw.c x4; have q0 := hSw.c x0; go_simp; try with_reducible rfl)
    try simp only [aS]
    refine tw 15 29 J1 ?_ (hy := by intro w' hSw; have q1 := hSw.c x1; have q2 := hSw.c x2; have q3 := hSw.c x3; have q4 := hSw.c x4; have q0 := hSw.c x0; go_simp; try with_reducible rfl)
    try simp only [aS]
    refine sw 16 30 J1 ?_
    try simp only [aS]
    refine sw 17 31 J1 ?_
    try simp only [aS]
    refine sw 18 32 J1 ?_
    try simp only [aS]
    refine sw 19 33 J1 ?_
    try simp only [aS]
    refine sw 20 34 J1 ?_
    try simp only [aS]
    refine sw 21 35 J1 ?_
    try simp only [aS]
    refine tw 22 36 J1 ?_ (hy := by intro w' hSw; have q1 := hSw.c x1; have q2 := hSw.c x2; have q3 := hSw.c x3; have q4 := hSw.c x4; have q0 := hSw.c x0; go_simp; try with_reducible rfl)
    try simp only [aS]
    refine tw 23 37 J1 ?_ (hy := by intro w' hSw; have q1 := hSw.c x1; have q2 := hSw.c x2; have q3 := hSw.c x3; have q4 := hSw.c x4; have q0 := hSw.c x0; go_simp; try with_reducible rfl)
    try simp only [aS]
    refine sw 24 38 J1 ?_
    try simp only [aS]
    refine sw 25 39 J1 ?_
    try simp only [aS]
    refine sw 26 40 J1 ?_
    try simp only [aS]
    refine sw 27 41 J1 ?_
    try simp only [aS]
    refine sw 28 42 J1 ?_
    try simp only [aS]
    refine sw 29 43 J1 ?_
    try simp only [aS]
    refine tw 30 44 J1 ?_ (hy := by intro w' hSw; have q1 := hSw.c x1; have q2 := hSw.c x2; have q3 := hSw.c x3; have q4 := hSw.c x4; have q0 := hSw.c x0; go_simp; try with_reducible rfl)
    try simp only [aS]
    refine wpAnyH_done (by kernel_rfl) ?_ _
    have BE := Lib.hid (S2.out.bel.trans ((BelS.b J1).mono S2.out.bel.size))
    clear x0 x1 x2 x3 x4
    go_wp2_with fail
    go_ret
    exact ⟨by rw [HF.out]; try rfl, BE.out⟩
end Go.Proofs.Ytkoacclbempmdaa

/- Contracts of the specification's cased and CheckCase. -/
namespace Go.Proofs.Ytkoacclbempmdaa
open Go.RowKit

set_option maxHeartbeats 16000000 in
set_option maxRecDepth 1000000 in
theorem rcased_any (A : Option Addr) (c : Nat) (cv : Value) (ws : Wk) (s : Ca) (d : Int) (w : World) (h : RK w.heap.size (.slice A ws.length c) ws w) (hs : RCa w.heap.size cv s w) (hw : WOk ws) (hd : (CaOk ws s ∧ d = 0) ∨ (¬ CaOk ws s ∧ d = 1)) :
    Calls Try.prog 123 #[.agg #[.slice A ws.length c], cv] w fun e w' => e = .returned (.int .i64 d) ∧ Below w.heap.size w w' := by
  obtain ⟨A1, c1, A2, c2, rfl⟩ := hs.form
  have H := Lib.hid h
  have HS := Lib.hid hs
  have HW := Lib.hid hw
  have HBB := Lib.hid hd
  have ht : total ws ≤ 100000 := by have := hw.tot; omega
  have hln : ws.length ≤ 100000 := by have := hw.len; omega
  have C1 := Lib.hid fun W (hb : Below w.heap.size w W) => routlets_any A ws.length c ws W (h.up hb.size hb) ht
  have C2 := Lib.hid fun W (hb : Below w.heap.size w W) => rheads_any A ws.length c ws W (h.up hb.size hb) ht hln
  have S0 := Lib.hid (CW.new w (.slice A ws.length c) (.slice A1 s.river.length c1) (.slice A2 s.boards.length c2))
  clear h hs hw hd
  go_enter Try.func123, Try.ntmps123
  go_wp2_with fail
  refine (C1.out _ S0.out.bel).mono ?_
  rintro e w2 ⟨lv, rfl, hlv, b1⟩
  have S2 := Lib.hid (S0.out.below b1)
  have RL := Lib.hid (rl_in hlv (H.out.up S0.out.bel.size S0.out.bel) b1 b1.size ht)
  obtain ⟨Al, cl, rfl, -⟩ := hlv.form
  have hol := outs_len ws
  rw [hol] at RL ⊢
  clear hlv b1 ht hln
  have x0 := S2.out.wk
  have x1 := S2.out.ca
  have x2 := S2.out.cb
  obtain ⟨nh, hnh⟩ : ∃ nh, (headsL ws).length = nh := ⟨_, rfl⟩
  obtain ⟨nt, hnt⟩ : ∃ nt, total ws = nt := ⟨_, rfl⟩
  have HNH := Lib.hid hnh
  have HNT := Lib.hid hnt
  have HCH : Hid (∀ W, BelS w2 W → Calls Try.prog 103 #[.agg #[.slice A ws.length c]] W fun e w' => ∃ A' c', e = .returned (.slice A' nh c') ∧ Below W.heap.size W w') := Lib.hid fun W hb => (C2.out W (S2.out.bel.trans (hb.b.mono S2.out.bel.size))).mono fun e w' ⟨v, he, ho, hb'⟩ => by
    obtain ⟨A', c', hv, -⟩ := ho.form
    exact ⟨A', c', by rw [he, hv, hnh], hb'⟩
  rw [hnt] at RL ⊢
  clear hnh hnt hol C1 C2
  go_upto_region 2 with fail
  refine wp_region_held_drew (S := BelS w2) (by kernel_rfl) (BelS.drew0 _) (fun J0 => ?_)
  refine tw 0 12 J0 ?_ (hy := by intro w' hSw; have q0 := hSw.c x0; have q1 := hSw.c x1; have q2 := hSw.c x2; go_simp; try with_reducible rfl)
  try simp only [aS]
  refine tw 1 13 J0 ?_ (hy := by intro w' hSw; have q0 := hSw.c x0; have q1 := hSw.c x1; have q2 := hSw.c x2; go_simp; try with_reducible rfl)
  try simp only [aS]
  refine tw 2 14 J0 ?_ (hy := by intro w' hSw; have q0 := hSw.c x0; have q1 := hSw.c x1; have q2 := hSw.c x2; go_simp; try with_reducible rfl)
  try simp only [aS]
  refine tw 3 15 J0 ?_ (hy := by intro w' hSw; have q0 := hSw.c x0; have q1 := hSw.c x1; have q2 := hSw.c x2; go_simp; try with_reducible rfl)
  try simp only [aS]
  refine wpAnyH_ready (rs := [4]) (by kernel_rfl) (by simp) ?_
  refine AllReadyH.cons rfl (fun K hK => ?_) AllReadyH.nil
  go_simp
  refine (HCH.out _ J0).mono ?_
  rintro e wq1 ⟨Ah, ch, rfl, hq1⟩
  have J1 := J0.below hq1
  clear hq1
  refine hK.out _ _ J1 (fun _ => ?_)
  clear hK K
  try simp only [aS]
  refine tw 5 17 J1 ?_ (hy := by intro w' hSw; have q0 := hSw.c x0; have q1 := hSw.c x1; have q2 := hSw.c x2; go_simp; try with_reducible rfl)
  try simp only [aS]
  by_cases h0 : s.river.length = nh
  · have h0b : ((s.river.length : Int) != (nh : Int)) = false := (neqB _ _).2.2 h0
    refine tw 6 18 J1 ?_ (hy := by intro w' hSw; have q0 := hSw.c x0; have q1 := hSw.c x1; have q2 := hSw.c x2; go_simp; try with_reducible rfl)
    try simp only [aS]
    refine tw 7 19 J1 ?_ (hy := by intro w' hSw; have q0 := hSw.c x0; have q1 := hSw.c x1; have q2 := hSw.c x2; go_simp; try with_reducible rfl)
    try simp only [aS]
    refine tw 8 20 J1 ?_ (hy := by intro w' hSw; have q0 := hSw.c x0; have q1 := hSw.c x1; have q2 := hSw.c x2; go_simp; try with_reducible rfl)
    try simp only [aS]
    refine tw 9 21 J1 ?_ (hy := by intro w' hSw; have q0 := hSw.c x0; have q1 := hSw.c x1; have q2 := hSw.c x2; go_simp; try with_reducible rfl)
    try simp only [aS]
    refine tw 10 22 J1 ?_ (hy := by intro w' hSw; have q0 := hSw.c x0; have q1 := hSw.c x1; have q2 := hSw.c x2; go_simp; try with_reducible rfl)
    try simp only [aS]
    refine tw 11 23 J1 ?_ (hy := by intro w' hSw; have q0 := hSw.c x0; have q1 := hSw.c x1; have q2 := hSw.c x2; go_simp; try with_reducible rfl)
    try simp only [aS]
    refine tw 12 24 J1 ?_ (hy := by intro w' hSw; have q0 := hSw.c x0; have q1 := hSw.c x1; have q2 := hSw.c x2; go_simp; try with_reducible rfl)
    try simp only [aS]
    by_cases h1 : s.boards.length = nt
    · have h1b : ((s.boards.length : Int) != (nt : Int)) = false := (neqB _ _).2.2 h1
      refine tw 13 25 J1 ?_ (hy := by intro w' hSw; have q0 := hSw.c x0; have q1 := hSw.c x1; have q2 := hSw.c x2; go_simp; try with_reducible rfl)
      try simp only [aS]
      refine tw 14 26 J1 ?_ (hy := by intro w' hSw; have q0 := hSw.c x0; have q1 := hSw.c x1; have q2 := hSw.c x2; go_simp; try with_reducible rfl)
      try simp only [aS]
      refine wpAnyH_done (by kernel_rfl) ?_ _
      have S3 := Lib.hid (S2.out.below (BelS.b J1))
      have RL := Lib.hid (RL.out.up (BelS.b J1).size (BelS.b J1))
      obtain ⟨w3, hw3⟩ : ∃ w3, wq1 = w3 := ⟨_, rfl⟩
      rw [hw3] at S3 RL ⊢
      clear hw3 x0 x1 x2 J0 J1
      have HBB2 : Hid ((CaOk ws s ∧ d = 0) ∨ (¬ CaOk ws s ∧ d = 1)) := HBB
      have HLN := Lib.hid (And.intro h0 h1)
      have hnr : (s.river.length : Int) ≤ 100000 := by have := HNH.out; have := headsL_len HW.out; omega
      have hntt : (nt : Int) ≤ 60 := by have := HNT.out; have := HW.out.tot; omega
      clear h0 h1 h0b h1b
      go_wp2_with fail
      go_loopw [6] (fun i wr => ∃ k : Nat, i = .int .i64 k ∧ k ≤ s.river.length ∧ (∀ j x, j < k → s.river[j]? = some x → spB 0 1048576 x.1 x.2 = true) ∧ CW w (.slice A ws.length c) (.slice A1 s.river.length c1) (.slice A2 s.boards.length c2) wr ∧ RO wr.heap.size (.slice Al nt cl) (outs ws) wr) (fun i _ => s.river.length - (intOf i).toNat)
      case atStart => exact ⟨0, rfl, by omega, fun j x h => by omega, S3.out, RL.out⟩
      case round =>
        obtain ⟨k, rfl, hk, hok, hS3, hRL⟩ := hrel
        have HOK := Lib.hid hok
        replace S3 := Lib.hid hS3
        replace RL := Lib.hid hRL
        have x1 := S3.out.ca
        clear hok hS3 hRL
        by_cases hkl : k < s.river.length
        · have hk0 : (k : Int) < (s.river.length : Int) := by omega
          obtain ⟨x, hx⟩ : ∃ x, s.river[k]? = some x := ⟨_, List.getElem?_eq_getElem hkl⟩
          obtain ⟨b, o, rfl, hb, q0, q1⟩ := (HS.out.parts.1.up S3.out.bel.size S3.out.bel).span hx
          have HX := Lib.hid hx
          obtain ⟨lo, hi⟩ := x
          clear hx
          go_wp2_with fail
          refine (rflows_any lo hi _).mono ?_
          rintro e w4 ⟨rfl, b4⟩
          replace S3 := Lib.hid (S3.out.below b4)
          replace RL := Lib.hid (RL.out.up b4.size b4)
          clear b4 q0 q1 x1
          by_cases hin : spB 0 1048576 lo hi = true
          · rw [hin]
            have HIN := Lib.hid hin
            clear hin
            go_wp2_with fail
            go_roundw
            case rel => exact ⟨k + 1, by go_num, by omega, fun j y hj hy => by
              rcases Nat.lt_or_ge j k with h | h
              · exact HOK.out j y h hy
              · obtain rfl : j = k := by omega
                rw [HX.out] at hy
                cases hy
                exact HIN.out, S3.out, RL.out⟩
            case measure => show s.river.length - ((k : Int) + 1).toNat < s.river.length - (k : Int).toNat; omega
          · rw [Bool.not_eq_true] at hin
            have HF : Hid (d = 1) := Lib.hid (HBB2.out.elim (fun hx => by have := hx.1.rr _ (List.mem_of_getElem? HX.out); simp only at this; rw [hin] at this; cases this) (·.2))
            rw [hin]
            clear hin
            go_wp2_with fail
            go_ret
            exact ⟨by rw [HF.out]; try rfl, S3.out.bel⟩
        · have hk0 : (s.river.length : Int) ≤ (k : Int) := by omega
          obtain rfl : k = s.river.length := by omega
          go_wp2_with fail
          go_loopw [8] (fun i wx => ∃ k : Nat, i = .int .i64 k ∧ k ≤ nt ∧ (∀ j p x, j < k → (allP ws)[j]? = some p → s.boards[j]? = some x → spB 0 ((p.o.ps.length : Int) - 1) x.1 x.2 = true) ∧ CW w (.slice A ws.length c) (.slice A1 s.river.length c1) (.slice A2 s.boards.length c2) wx ∧ RO wx.heap.size (.slice Al nt cl) (outs ws) wx) (fun i _ => nt - (intOf i).toNat)
          case atStart => exact ⟨0, rfl, by omega, fun j x y h => by omega, S3.out, RL.out⟩
          case round =>
            obtain ⟨k, rfl, hk', hok, hS4, hRL⟩ := hrel
            have HOK2 := Lib.hid hok
            have S4 := Lib.hid hS4
            have RL4 := Lib.hid hRL
            clear hok hS4 hRL
            have x2 := S4.out.cb
            by_cases hkl : k < nt
            · have hk0 : (k : Int) < (nt : Int) := by omega
              obtain ⟨p, hp⟩ := at_total (ws := ws) (n := k) (by rw [HNT.out]; exact hkl)
              obtain ⟨x, hx⟩ : ∃ x, s.boards[k]? = some x := ⟨_, List.getElem?_eq_getElem (by have := HLN.out.2; omega)⟩
              obtain ⟨b, o, rfl, hb, q0, q1⟩ := (HS.out.parts.2.up S4.out.bel.size S4.out.bel).span hx
              have hn1 : (k : Int) < (s.boards.length : Int) := by have := HLN.out.2; omega
              have HX := Lib.hid hx
              have HP := Lib.hid hp
              obtain ⟨lo, hi⟩ := x
              clear hx
              go_upto_region 14 with fail
              obtain ⟨WA, hWA⟩ : ∃ W, wr.alloc (.cells #[.int .i64 lo, .int .i64 hi] 40) = W := ⟨_, rfl⟩
              have bA : Below wr.heap.size wr WA := by rw [← hWA]; exact (Below.refl _ _).alloc (Nat.le_refl _) _
              have a0 : WA.cell? ⟨wr.heap.size, 0, none⟩ = some (.int .i64 lo) := by rw [← hWA]; simp [go_sem]
              have a1 : WA.cell? ⟨wr.heap.size, 1, none⟩ = some (.int .i64 hi) := by rw [← hWA]; simp [go_sem]
              rw [hWA]
              replace S4 := Lib.hid (S4.out.below bA)
              replace RL4 := Lib.hid (RL4.out.up bA.size bA)
              clear bA hWA q0 q1 x2
              have hpo := (outs_get hp).1
              obtain ⟨b1, o1, hA1, hb1, hc1⟩ := ro_at RL4.out hpo
              subst hA1
              have p2 : WA.cell? ⟨b1, o1 + k * 7 + 2, none⟩ = some (.slice p.o.pa p.o.ps.length p.o.pc) := hc1.pv
              obtain ⟨n, hn⟩ : ∃ n, p.o.ps.length = n := ⟨_, rfl⟩
              rw [hn] at p2
              have HN := Lib.hid hn
              clear hp hpo hc1 hn hb1
              rcases (by omega : (¬ lo < 0 ∧ ¬ hi < lo ∧ ¬ (n : Int) ≤ hi) ∨ lo < 0 ∨ (¬ lo < 0 ∧ hi < lo) ∨ (¬ lo < 0 ∧ ¬ hi < lo ∧ (n : Int) ≤ hi)) with ⟨g0, g1, g2⟩ | g0 | ⟨g0, g1⟩ | ⟨g0, g1, g2⟩
              · go_quiet (fail)
                go_wp2_with fail
                go_roundw
                case rel => exact ⟨k + 1, by go_num, by omega, fun j q x hj hq hx => by
                  rcases Nat.lt_or_ge j k with h | h
                  · exact HOK2.out j q x h hq hx
                  · obtain rfl : j = k := by omega
                    rw [HP.out] at hq
                    rw [HX.out] at hx
                    cases hq
                    cases hx
                    rw [HN.out, spB_iff]
                    simp only
                    omega, S4.out.below (below_drewN (Below.refl _ _) _), RL4.out.up (by simp) (below_drewN (Below.refl _ _) _)⟩
                case measure => show nt - ((k : Int) + 1).toNat < nt - (k : Int).toNat; omega
              all_goals
                have HF : Hid (d = 1) := Lib.hid (HBB2.out.elim (fun hx => by have := hx.1.ob k p _ HP.out HX.out; rw [HN.out, spB_iff] at this; simp only at this; omega) (·.2))
                go_quiet (fail)
                go_wp2_with fail
                go_ret
                exact ⟨by rw [HF.out]; try rfl, below_drewN S4.out.bel _⟩
            · have hk0 : (nt : Int) ≤ (k : Int) := by omega
              obtain rfl : k = nt := by omega
              have HF : Hid (d = 0) := Lib.hid (HBB2.out.elim (·.2) (fun hx => absurd ⟨by rw [HNH.out]; exact HLN.out.1, by rw [HNT.out]; exact HLN.out.2, fun x hx => by
                obtain ⟨i, hi⟩ := List.mem_iff_getElem?.1 hx
                exact HOK.out i x (List.getElem?_eq_some_iff.1 hi).1 hi, fun i p x hi hx => HOK2.out i p x (by have := lt_total hi; rw [HNT.out] at this; exact this) hi hx⟩ hx.1))
              go_wp2_with fail
              go_ret
              exact ⟨by rw [HF.out]; try rfl, S4.out.bel⟩
    · have h1b : ((s.boards.length : Int) != (nt : Int)) = true := (neqB _ _).1.2 h1
      have HF : Hid (d = 1) := Lib.hid (HBB.out.elim (fun hx => absurd (by have := hx.1.b; have := HNH.out; have := HNT.out; omega) h1) (·.2))
      refine tw 13 25 J1 ?_ (hy := by intro w' hSw; have q0 := hSw.c x0; have q1 := hSw.c x1; have q2 := hSw.c x2; go_simp; try with_reducible rfl)
      try simp only [aS]
      refine tw 14 26 J1 ?_ (hy := by intro w' hSw; have q0 := hSw.c x0; have q1 := hSw.c x1; have q2 := hSw.c x2; go_simp; try with_reducible rfl)
      try simp only [aS]
      refine wpAnyH_done (by kernel_rfl) ?_ _
      have BE := Lib.hid (S2.out.bel.trans ((BelS.b J1).mono S2.out.bel.size))
      clear x0 x1 x2
      go_wp2_with fail
      go_ret
      exact ⟨by rw [HF.out]; try rfl, BE.out⟩
  · have h0b : ((s.river.length : Int) != (nh : Int)) = true := (neqB _ _).1.2 h0
    have HF : Hid (d = 1) := Lib.hid (HBB.out.elim (fun hx => absurd (by have := hx.1.r; have := HNH.out; have := HNT.out; omega) h0) (·.2))
    refine tw 6 18 J1 ?_ (hy := by intro w' hSw; have q0 := hSw.c x0; have q1 := hSw.c x1; have q2 := hSw.c x2; go_simp; try with_reducible rfl)
    try simp only [aS]
    refine tw 7 19 J1 ?_ (hy := by intro w' hSw; have q0 := hSw.c x0; have q1 := hSw.c x1; have q2 := hSw.c x2; go_simp; try with_reducible rfl)
    try simp only [aS]
    refine sw 8 20 J1 ?_
    try simp only [aS]
    refine sw 9 21 J1 ?_
    try simp only [aS]
    refine sw 10 22 J1 ?_
    try simp only [aS]
    refine sw 11 23 J1 ?_
    try simp only [aS]
    refine sw 12 24 J1 ?_
    try simp only [aS]
    refine sw 13 25 J1 ?_
    try simp only [aS]
    refine tw 14 26 J1 ?_ (hy := by intro w' hSw; have q0 := hSw.c x0; have q1 := hSw.c x1; have q2 := hSw.c x2; go_simp; try with_reducible rfl)
    try simp only [aS]
    refine wpAnyH_done (by kernel_rfl) ?_ _
    have BE := Lib.hid (S2.out.bel.trans ((BelS.b J1).mono S2.out.bel.size))
    clear x0 x1 x2
    go_wp2_with fail
    go_ret
    exact ⟨by rw [HF.out]; try rfl, BE.out⟩

set_option maxHeartbeats 8000000 in
set_option maxRecDepth 1000000 in
theorem rCheckCase_any (v cv : Value) (ws : Wk) (s : Ca) (d : Int) (w : World) (h : RK w.heap.size v ws w) (ht : total ws ≤ 100000) (hs : RCa w.heap.size cv s w) (hd : CasIs ws s d) :
    Calls Try.prog 63 #[.agg #[v], cv] w fun e w' => e = .returned (.int .i64 d) ∧ Below w.heap.size w w' := by
  obtain ⟨A, c, rfl, -⟩ := (show ∃ A c, v = .slice A ws.length c ∧ True by obtain ⟨A, c, e, _⟩ := h; exact ⟨A, c, e, trivial⟩)
  obtain ⟨A1, c1, A2, c2, rfl⟩ := hs.form
  have C1 := Lib.hid fun (d : Int) (hc : CheckIs ws d) W (hb : Below w.heap.size w W) => rcheck_any A ws.length c ws d W (h.up hb.size hb) ht hc
  have C2 := Lib.hid fun (hw : WOk ws) (hd : (CaOk ws s ∧ d = 0) ∨ (¬ CaOk ws s ∧ d = 1)) W (hb : Below w.heap.size w W) => rcased_any A c _ ws s d W (h.up hb.size hb) (hs.up hb.size hb) hw hd
  have S0 := Lib.hid (CW.new w (.slice A ws.length c) (.slice A1 s.river.length c1) (.slice A2 s.boards.length c2))
  clear h hs
  have hx : (CheckIs ws d ∧ d ≠ 0) ∨ (CheckIs ws 0 ∧ ((CaOk ws s ∧ d = 0) ∨ (¬ CaOk ws s ∧ d = 1))) := by
    rcases hd with h | ⟨a, b, e⟩ | ⟨a, b, e⟩
    · exact .inl h
    · exact .inr ⟨a, .inr ⟨b, e⟩⟩
    · exact .inr ⟨a, .inl ⟨b, e⟩⟩
  rcases hx with ⟨hc, hd⟩ | ⟨hc, hd⟩
  · have HC := Lib.hid hc
    have hdb : (d != 0) = true := by rw [bne_iff_ne]; exact hd
    clear hc
    go_enter Try.func63, Try.ntmps63
    go_wp2_with fail
    refine (C1.out d HC.out _ S0.out.bel).mono ?_
    rintro e w1 ⟨rfl, b1⟩
    have S1 := Lib.hid (S0.out.below b1)
    clear b1
    go_wp2_with fail
    go_ret
    exact ⟨rfl, S1.out.bel⟩
  · have HC := Lib.hid hc
    have HD := Lib.hid hd
    clear hc hd
    go_enter Try.func63, Try.ntmps63
    go_wp2_with fail
    refine (C1.out 0 HC.out _ S0.out.bel).mono ?_
    rintro e w1 ⟨rfl, b1⟩
    have S1 := Lib.hid (S0.out.below b1)
    clear b1
    have x0 := S1.out.wk
    have x1 := S1.out.ca
    have x2 := S1.out.cb
    go_wp2_with fail
    refine (C2.out HC.out.ok HD.out _ S1.out.bel).mono ?_
    rintro e w2 ⟨rfl, b1⟩
    have S2 := Lib.hid (S1.out.below b1)
    clear b1
    go_wp2_with fail
    go_ret
    exact ⟨rfl, S2.out.bel⟩
end Go.Proofs.Ytkoacclbempmdaa

/- Contracts of Fits, and of the specification's Fits. -/
namespace Go.Proofs.Ytkoacclbempmdaa
open Go.RowKit

/-- What the law holds in its first blocks. -/
structure WCA (w : World) (vv0 va0 va1 vb0 vb1 vb2 vb3 : Value) (W : World) : Prop where
  v0 : W.cell? ⟨w.heap.size, 0, none⟩ = some vv0
  a0 : W.cell? ⟨w.heap.size + 1, 0, none⟩ = some va0
  a1 : W.cell? ⟨w.heap.size + 1, 1, none⟩ = some va1
  b0 : W.cell? ⟨w.heap.size + 1 + 1, 0, none⟩ = some vb0
  b1 : W.cell? ⟨w.heap.size + 1 + 1, 1, none⟩ = some vb1
  b2 : W.cell? ⟨w.heap.size + 1 + 1, 2, none⟩ = some vb2
  b3 : W.cell? ⟨w.heap.size + 1 + 1, 3, none⟩ = some vb3
  bel : Below w.heap.size w W
theorem WCA.new (w : World) (vv0 va0 va1 vb0 vb1 vb2 vb3 : Value) : WCA w vv0 va0 va1 vb0 vb1 vb2 vb3 (((w.alloc (.cells #[vv0] 24)).alloc (.cells #[va0, va1] 46)).alloc (.cells #[vb0, vb1, vb2, vb3] 27)) := ⟨by simp [go_sem], by simp [go_sem], by simp [go_sem], by simp [go_sem], by simp [go_sem], by simp [go_sem], by simp [go_sem], (((Below.refl _ _).alloc (Nat.le_refl _) _).alloc (by simp <;> omega) _).alloc (by simp <;> omega) _⟩
theorem WCA.below {w W W' : World} {vv0 va0 va1 vb0 vb1 vb2 vb3 : Value} (h : WCA w vv0 va0 va1 vb0 vb1 vb2 vb3 W) (hb : Below W.heap.size W W') : WCA w vv0 va0 va1 vb0 vb1 vb2 vb3 W' := ⟨BelS.c hb h.v0, BelS.c hb h.a0, BelS.c hb h.a1, BelS.c hb h.b0, BelS.c hb h.b1, BelS.c hb h.b2, BelS.c hb h.b3, h.bel.trans (hb.mono h.bel.size)⟩
/-- What Fits says. -/
def FitR (ws : Wk) (s : Ca) (t : Wa) (b : Bool) (d : Int) : Prop := (CasIs ws s d ∧ d ≠ 0 ∧ b = false) ∨ (CasIs ws s 0 ∧ ¬ WaOk ws t ∧ d = 1 ∧ b = false) ∨ (CasIs ws s 0 ∧ WaOk ws t ∧ d = 0 ∧ b = (allIn t.river s.river && allIn t.boards s.boards))
theorem FitR.exists_ (ws : Wk) (s : Ca) (t : Wa) : ∃ b d, FitR ws s t b d := by
  obtain ⟨d, hd⟩ := CasIs.exists_ ws s
  by_cases h : d = 0
  · subst h
    by_cases h2 : WaOk ws t
    · exact ⟨_, 0, .inr (.inr ⟨hd, h2, rfl, rfl⟩)⟩
    · exact ⟨false, 1, .inr (.inl ⟨hd, h2, rfl, rfl⟩)⟩
  · exact ⟨false, d, .inl ⟨hd, h, rfl⟩⟩
theorem CasIs.chk0 {ws : Wk} {s : Ca} (h : CasIs ws s 0) : CheckIs ws 0 := by
  rcases h with ⟨_, h⟩ | ⟨_, _, h⟩ | ⟨h, _, _⟩
  · exact absurd rfl h
  · omega
  · exact h
theorem CaOk.b100 {ws : Wk} {s : Ca} (hw : WOk ws) (h : CaOk ws s) : s.river.length ≤ 100000 ∧ s.boards.length ≤ 100000 := by
  have := headsL_len hw
  have := h.r
  have := h.b
  have := hw.tot
  omega
theorem WaOk.ca {ws : Wk} {s : Ca} {t : Wa} (h : WaOk ws t) (hc : CaOk ws s) : t.river.length = s.river.length ∧ t.boards.length = s.boards.length := by
  have h1 := h.r
  have h2 := hc.r
  have h3 := h.b
  have h4 := hc.b
  unfold headsL at h2
  rw [List.length_map] at h2
  omega

set_option maxHeartbeats 8000000 in
set_option maxRecDepth 1000000 in
theorem Fits_any (v cv wv : Value) (ws : Wk) (s : Ca) (t : Wa) (b : Bool) (d : Int) (w : World) (h : RK w.heap.size v ws w) (hq : total ws ≤ 100000) (hs : RCa w.heap.size cv s w) (ht : RWa w.heap.size wv t w) (hd : FitR ws s t b d) :
    Calls Try.prog 29 #[.agg #[v], cv, wv] w fun e w' => e = .returned (.tuple #[.bool b, .int .i64 d]) ∧ Below w.heap.size w w' := by
  obtain ⟨A, c, rfl, -⟩ := (show ∃ A c, v = .slice A ws.length c ∧ True by obtain ⟨A, c, e, _⟩ := h; exact ⟨A, c, e, trivial⟩)
  obtain ⟨A1, c1, A2, c2, rfl⟩ := hs.form
  obtain ⟨B1, d1, B2, d2, B3, d3, B4, d4, rfl⟩ := ht.form
  have C1 := Lib.hid fun (d : Int) (hc : CasIs ws s d) W (hb : Below w.heap.size w W) => CheckCase_any (.slice A ws.length c) _ ws s d W (h.up hb.size hb) (by omega) (hs.up hb.size hb) hc
  have C2 := Lib.hid fun (hk : CheckIs ws 0) (d : Int) (hd : (WaOk ws t ∧ d = 0) ∨ (¬ WaOk ws t ∧ d = 1)) W (hb : Below w.heap.size w W) => CheckWater_any (.slice A ws.length c) _ ws t d W (h.up hb.size hb) (by omega) (ht.up hb.size hb) (hd.elim (fun x => .inr (.inr ⟨hk, x⟩)) (fun x => .inr (.inl ⟨hk, x⟩)))
  have C3 := Lib.hid fun (hw : WOk ws) (hc : CaOk ws s) (ho : WaOk ws t) W (hb : Below w.heap.size w W) => fits_any (.slice A1 s.river.length c1) (.slice A2 s.boards.length c2) (.slice B1 t.river.length d1) (.slice B2 t.boards.length d2) (.slice B3 t.leaks.length d3) (.slice B4 t.losses.length d4) t.river t.boards s.river s.boards W (ht.parts.1.up hb.size hb) (ht.parts.2.1.up hb.size hb) (hs.parts.1.up hb.size hb) (hs.parts.2.up hb.size hb) (by have := ho.ca hc; omega) (by have := ho.ca hc; omega) (by have := hc.b100 hw; omega) (by have := hc.b100 hw; omega)
  have S0 := Lib.hid (WCA.new w (.slice A ws.length c) (.slice A1 s.river.length c1) (.slice A2 s.boards.length c2) (.slice B1 t.river.length d1) (.slice B2 t.boards.length d2) (.slice B3 t.leaks.length d3) (.slice B4 t.losses.length d4))
  have HD := Lib.hid hd
  clear h hs ht hd
  go_enter Try.func29, Try.ntmps29
  go_wp2_with fail
  rcases HD.out with ⟨hc, hd0, rfl⟩ | ⟨hc, hn, rfl, rfl⟩ | ⟨hc, ho, rfl, hb⟩
  · have hdb : (d != 0) = true := by rw [bne_iff_ne]; exact hd0
    refine (C1.out d hc _ S0.out.bel).mono ?_
    rintro e w1 ⟨rfl, b1⟩
    have S1 := Lib.hid (S0.out.below b1)
    clear b1 hc
    go_wp2_with fail
    refine bodyPost_ret (results_tmp2 rfl _ _ _) rfl ?_
    exact ⟨rfl, S1.out.bel⟩
  all_goals
    refine (C1.out 0 hc _ S0.out.bel).mono ?_
    rintro e w1 ⟨rfl, b1⟩
    have S1 := Lib.hid (S0.out.below b1)
    have x0 := S1.out.v0
    have x1 := S1.out.b0
    have x2 := S1.out.b1
    have x3 := S1.out.b2
    have x4 := S1.out.b3
    have HK := Lib.hid hc
    clear b1 hc
  · have HN := Lib.hid hn
    clear hn
    go_wp2_with fail
    refine (C2.out HK.out.chk0 1 (.inr ⟨HN.out, rfl⟩) _ S1.out.bel).mono ?_
    rintro e w2 ⟨rfl, b1⟩
    have S2 := Lib.hid (S1.out.below b1)
    clear b1 x0 x1 x2 x3 x4
    go_wp2_with fail
    refine bodyPost_ret (results_tmp2 rfl _ _ _) rfl ?_
    exact ⟨rfl, S2.out.bel⟩
  · have HO := Lib.hid ho
    have HB := Lib.hid hb
    clear ho hb
    go_wp2_with fail
    refine (C2.out HK.out.chk0 0 (.inl ⟨HO.out, rfl⟩) _ S1.out.bel).mono ?_
    rintro e w2 ⟨rfl, b1⟩
    have S2 := Lib.hid (S1.out.below b1)
    clear b1 x0 x1 x2 x3 x4
    have x1 := S2.out.b0
    have x2 := S2.out.b1
    have x3 := S2.out.b2
    have x4 := S2.out.b3
    have y0 := S2.out.a0
    have y1 := S2.out.a1
    obtain ⟨q, hq⟩ : ∃ q, (allIn t.river s.river && allIn t.boards s.boards) = q := ⟨_, rfl⟩
    rw [hq] at C3 HB
    obtain rfl := HB.out
    clear hq
    go_wp2_with fail
    refine (C3.out HK.out.ok.1 HK.out.ok.2 HO.out _ S2.out.bel).mono ?_
    rintro e w3 ⟨rfl, b1⟩
    have S3 := Lib.hid (S2.out.below b1)
    clear b1 x1 x2 x3 x4 y0 y1
    go_wp2_with fail
    refine bodyPost_ret (results_tmp2 rfl _ _ _) rfl ?_
    exact ⟨rfl, S3.out.bel⟩

set_option maxHeartbeats 8000000 in
set_option maxRecDepth 1000000 in
theorem rFits_any (v cv wv : Value) (ws : Wk) (s : Ca) (t : Wa) (b : Bool) (d : Int) (w : World) (h : RK w.heap.size v ws w) (hq : total ws ≤ 100000) (hs : RCa w.heap.size cv s w) (ht : RWa w.heap.size wv t w) (hd : FitR ws s t b d) :
    Calls Try.prog 61 #[.agg #[v], cv, wv] w fun e w' => e = .returned (.tuple #[.bool b, .int .i64 d]) ∧ Below w.heap.size w w' := by
  obtain ⟨A, c, rfl, -⟩ := (show ∃ A c, v = .slice A ws.length c ∧ True by obtain ⟨A, c, e, _⟩ := h; exact ⟨A, c, e, trivial⟩)
  obtain ⟨A1, c1, A2, c2, rfl⟩ := hs.form
  obtain ⟨B1, d1, B2, d2, B3, d3, B4, d4, rfl⟩ := ht.form
  have C1 := Lib.hid fun (d : Int) (hc : CasIs ws s d) W (hb : Below w.heap.size w W) => rCheckCase_any (.slice A ws.length c) _ ws s d W (h.up hb.size hb) (by omega) (hs.up hb.size hb) hc
  have C2 := Lib.hid fun (hk : CheckIs ws 0) (d : Int) (hd : (WaOk ws t ∧ d = 0) ∨ (¬ WaOk ws t ∧ d = 1)) W (hb : Below w.heap.size w W) => rwater_any A c _ ws t d W (h.up hb.size hb) (ht.up hb.size hb) hk.ok hd
  have C3 := Lib.hid fun (hw : WOk ws) (hc : CaOk ws s) (ho : WaOk ws t) W (hb : Below w.heap.size w W) => rfits_any (.slice A1 s.river.length c1) (.slice A2 s.boards.length c2) (.slice B1 t.river.length d1) (.slice B2 t.boards.length d2) (.slice B3 t.leaks.length d3) (.slice B4 t.losses.length d4) t.river t.boards s.river s.boards W (ht.parts.1.up hb.size hb) (ht.parts.2.1.up hb.size hb) (hs.parts.1.up hb.size hb) (hs.parts.2.up hb.size hb) (by have := ho.ca hc; omega) (by have := ho.ca hc; omega) (by have := hc.b100 hw; omega) (by have := hc.b100 hw; omega)
  have S0 := Lib.hid (WCA.new w (.slice A ws.length c) (.slice A1 s.river.length c1) (.slice A2 s.boards.length c2) (.slice B1 t.river.length d1) (.slice B2 t.boards.length d2) (.slice B3 t.leaks.length d3) (.slice B4 t.losses.length d4))
  have HD := Lib.hid hd
  clear h hs ht hd
  go_enter Try.func61, Try.ntmps61
  go_wp2_with fail
  rcases HD.out with ⟨hc, hd0, rfl⟩ | ⟨hc, hn, rfl, rfl⟩ | ⟨hc, ho, rfl, hb⟩
  · have hdb : (d != 0) = true := by rw [bne_iff_ne]; exact hd0
    refine (C1.out d hc _ S0.out.bel).mono ?_
    rintro e w1 ⟨rfl, b1⟩
    have S1 := Lib.hid (S0.out.below b1)
    clear b1 hc
    go_wp2_with fail
    refine bodyPost_ret (results_tmp2 rfl _ _ _) rfl ?_
    exact ⟨rfl, S1.out.bel⟩
  all_goals
    refine (C1.out 0 hc _ S0.out.bel).mono ?_
    rintro e w1 ⟨rfl, b1⟩
    have S1 := Lib.hid (S0.out.below b1)
    have x0 := S1.out.v0
    have x1 := S1.out.b0
    have x2 := S1.out.b1
    have x3 := S1.out.b2
    have x4 := S1.out.b3
    have HK := Lib.hid hc
    clear b1 hc
  · have HN := Lib.hid hn
    clear hn
    go_wp2_with fail
    refine (C2.out HK.out.chk0 1 (.inr ⟨HN.out, rfl⟩) _ S1.out.bel).mono ?_
    rintro e w2 ⟨rfl, b1⟩
    have S2 := Lib.hid (S1.out.below b1)
    clear b1 x0 x1 x2 x3 x4
    go_wp2_with fail
    refine bodyPost_ret (results_tmp2 rfl _ _ _) rfl ?_
    exact ⟨rfl, S2.out.bel⟩
  · have HO := Lib.hid ho
    have HB := Lib.hid hb
    clear ho hb
    go_wp2_with fail
    refine (C2.out HK.out.chk0 0 (.inl ⟨HO.out, rfl⟩) _ S1.out.bel).mono ?_
    rintro e w2 ⟨rfl, b1⟩
    have S2 := Lib.hid (S1.out.below b1)
    clear b1 x0 x1 x2 x3 x4
    have x1 := S2.out.b0
    have x2 := S2.out.b1
    have x3 := S2.out.b2
    have x4 := S2.out.b3
    have y0 := S2.out.a0
    have y1 := S2.out.a1
    obtain ⟨q, hq⟩ : ∃ q, (allIn t.river s.river && allIn t.boards s.boards) = q := ⟨_, rfl⟩
    rw [hq] at C3 HB
    obtain rfl := HB.out
    clear hq
    go_wp2_with fail
    refine (C3.out HK.out.ok.1 HK.out.ok.2 HO.out _ S2.out.bel).mono ?_
    rintro e w3 ⟨rfl, b1⟩
    have S3 := Lib.hid (S2.out.below b1)
    clear b1 x1 x2 x3 x4 y0 y1
    go_wp2_with fail
    refine bodyPost_ret (results_tmp2 rfl _ _ _) rfl ?_
    exact ⟨rfl, S3.out.bel⟩

def CasedPost (s : Ca) (w : World) (e : Ending) (w' : World) : Prop := ∃ b, e = .returned (.bool b) ∧ (b = true → s.river.length ≤ 100 ∧ s.boards.length ≤ 100) ∧ Below w.heap.size w w'
set_option maxHeartbeats 8000000 in
set_option maxRecDepth 1000000 in
theorem casedL_any (v : Value) (s : Ca) (w : World) (h : RCa w.heap.size v s w) : Calls Try.prog 24 #[v] w (CasedPost s w) := by
  obtain ⟨A1, c1, A2, c2, rfl⟩ := h.form
  clear h
  have hs : (100 : Int) < (s.river.length : Int) ∨ ((s.river.length : Int) ≤ 100 ∧ (100 : Int) < (s.boards.length : Int)) ∨ ((s.river.length : Int) ≤ 100 ∧ (s.boards.length : Int) ≤ 100) := by omega
  have HB : Hid (Below w.heap.size w (w.alloc (.cells #[.slice A1 s.river.length c1, .slice A2 s.boards.length c2] 46))) := Lib.hid ((Below.refl _ _).alloc (Nat.le_refl _) _)
  rcases hs with h1 | ⟨h1, h2⟩ | ⟨h1, h2⟩
  all_goals
    go_enter Try.func24, Try.ntmps24
    go_wp2_with fail
    go_ret
    first
      | exact ⟨false, rfl, (fun h => by cases h), HB.out⟩
      | exact ⟨true, rfl, (fun _ => by omega), HB.out⟩
      | exact ⟨_, rfl, (fun h => by have := of_decide_eq_true h; omega), HB.out⟩
end Go.Proofs.Ytkoacclbempmdaa

/- Contract of the laws' wet. -/
namespace Go.Proofs.Ytkoacclbempmdaa
open Go.RowKit

def WetPost (s : Wa) (w : World) (e : Ending) (w' : World) : Prop := ∃ b, e = .returned (.bool b) ∧ (b = true → s.river.length ≤ 100 ∧ s.boards.length ≤ 100 ∧ s.leaks.length ≤ 100 ∧ s.losses.length ≤ 100) ∧ Below w.heap.size w w'
set_option maxHeartbeats 8000000 in
set_option maxRecDepth 1000000 in
theorem wet_any (v : Value) (s : Wa) (w : World) (h : RWa w.heap.size v s w) : Calls Try.prog 19 #[v] w (WetPost s w) := by
  obtain ⟨A1, c1, A2, c2, A3, c3, A4, c4, rfl⟩ := h.form
  clear h
  have hs : (100 : Int) < (s.river.length : Int) ∨ ((s.river.length : Int) ≤ 100 ∧ (100 : Int) < (s.boards.length : Int)) ∨ ((s.river.length : Int) ≤ 100 ∧ (s.boards.length : Int) ≤ 100 ∧ (100 : Int) < (s.leaks.length : Int)) ∨ ((s.river.length : Int) ≤ 100 ∧ (s.boards.length : Int) ≤ 100 ∧ (s.leaks.length : Int) ≤ 100 ∧ (100 : Int) < (s.losses.length : Int)) ∨ ((s.river.length : Int) ≤ 100 ∧ (s.boards.length : Int) ≤ 100 ∧ (s.leaks.length : Int) ≤ 100 ∧ (s.losses.length : Int) ≤ 100) := by omega
  have HB : Hid (Below w.heap.size w (w.alloc (.cells #[.slice A1 s.river.length c1, .slice A2 s.boards.length c2, .slice A3 s.leaks.length c3, .slice A4 s.losses.length c4] 27))) := Lib.hid ((Below.refl _ _).alloc (Nat.le_refl _) _)
  rcases hs with h1 | ⟨h1, h2⟩ | ⟨h1, h2, h3⟩ | ⟨h1, h2, h3, h4⟩ | ⟨h1, h2, h3, h4⟩
  all_goals
    go_enter Try.func19, Try.ntmps19
    go_wp2_with fail
    go_ret
    first
      | exact ⟨false, rfl, (fun h => by cases h), HB.out⟩
      | exact ⟨true, rfl, (fun _ => by omega), HB.out⟩
      | exact ⟨_, rfl, (fun h => by have := of_decide_eq_true h; omega), HB.out⟩

end Go.Proofs.Ytkoacclbempmdaa

/- The law CarrierCases, by its walk. -/
namespace Go.Proofs.Ytkoacclbempmdaa
open Go.RowKit

set_option maxHeartbeats 16000000 in
set_option maxRecDepth 1000000 in
theorem cases_law (A : Option Addr) (c : Nat) (cv wv : Value) (ws : Wk) (s : Ca) (t : Wa) (w : World) (h : RK w.heap.size (.slice A ws.length c) ws w) (hs : RCa w.heap.size cv s w) (ht : RWa w.heap.size wv t w) :
    Calls Try.prog 12 #[.agg #[.slice A ws.length c], cv, wv] w fun e w' => e = .returned (.bool true) ∧ Below w.heap.size w w' := by
  obtain ⟨A1, c1, A2, c2, rfl⟩ := hs.form
  obtain ⟨B1, d1, B2, d2, B3, d3, B4, d4, rfl⟩ := ht.form
  have H := Lib.hid h
  have HS := Lib.hid hs
  have HU := Lib.hid ht
  have S := Lib.hid (WCA.new w (.slice A ws.length c) (.slice A1 s.river.length c1) (.slice A2 s.boards.length c2) (.slice B1 t.river.length d1) (.slice B2 t.boards.length d2) (.slice B3 t.leaks.length d3) (.slice B4 t.losses.length d4))
  clear h hs ht
  go_enter Try.func12, Try.ntmps12
  have xx0 := S.out.v0
  go_wp2_with fail
  refine (few_any A ws.length c ws _ (H.out.up S.out.bel.size S.out.bel)).mono ?_
  rintro e wc1 ⟨b, rfl, hfew, bb⟩
  replace S := Lib.hid (S.out.below bb)
  clear bb xx0
  cases b
  · clear hfew
    go_wp2_with fail
    refine (sanity_any _).mono ?_
    rintro e wz ⟨rfl, bz⟩
    have SZ := Lib.hid (S.out.below bz)
    clear bz
    go_wp2_with fail
    go_ret
    exact ⟨rfl, SZ.out.bel⟩
  have HT : Hid (total ws ≤ 90 ∧ ws.length ≤ 30) := Lib.hid (by have := hfew (by trivial); have h1 := this.1; have h2 := this.2.1; omega)
  clear hfew
  have xx0 := S.out.b0
  have xx1 := S.out.b1
  have xx2 := S.out.b2
  have xx3 := S.out.b3
  go_wp2_with fail
  refine (wet_any _ t _ (HU.out.up S.out.bel.size S.out.bel)).mono ?_
  rintro e wc2 ⟨b, rfl, -, bb⟩
  replace S := Lib.hid (S.out.below bb)
  clear bb xx0 xx1 xx2 xx3
  cases b
  · skip
    go_wp2_with fail
    refine (sanity_any _).mono ?_
    rintro e wz ⟨rfl, bz⟩
    have SZ := Lib.hid (S.out.below bz)
    clear bz
    go_wp2_with fail
    go_ret
    exact ⟨rfl, SZ.out.bel⟩
  have xx0 := S.out.a0
  have xx1 := S.out.a1
  go_wp2_with fail
  refine (casedL_any _ s _ (HS.out.up S.out.bel.size S.out.bel)).mono ?_
  rintro e wc3 ⟨b, rfl, -, bb⟩
  replace S := Lib.hid (S.out.below bb)
  clear bb xx0 xx1
  cases b
  · skip
    go_wp2_with fail
    refine (sanity_any _).mono ?_
    rintro e wz ⟨rfl, bz⟩
    have SZ := Lib.hid (S.out.below bz)
    clear bz
    go_wp2_with fail
    go_ret
    exact ⟨rfl, SZ.out.bel⟩
  obtain ⟨q, d, hd⟩ := FitR.exists_ ws s t
  obtain ⟨r, hr⟩ := CasIs.exists_ ws s
  have HD := Lib.hid hd
  have HR := Lib.hid hr
  clear hd hr
  have xx0 := S.out.v0
  have xx1 := S.out.a0
  have xx2 := S.out.a1
  have xx3 := S.out.b0
  have xx4 := S.out.b1
  have xx5 := S.out.b2
  have xx6 := S.out.b3
  go_wp2_with fail
  refine (Fits_any _ _ _ ws s t q d _ (H.out.up S.out.bel.size S.out.bel) (by have := HT.out; omega) (HS.out.up S.out.bel.size S.out.bel) (HU.out.up S.out.bel.size S.out.bel) HD.out).mono ?_
  rintro e wc4 ⟨rfl, bb⟩
  replace S := Lib.hid (S.out.below bb)
  clear bb xx0 xx1 xx2 xx3 xx4 xx5 xx6
  have xx0 := S.out.v0
  have xx1 := S.out.a0
  have xx2 := S.out.a1
  have xx3 := S.out.b0
  have xx4 := S.out.b1
  have xx5 := S.out.b2
  have xx6 := S.out.b3
  go_wp2_with fail
  refine (rFits_any _ _ _ ws s t q d _ (H.out.up S.out.bel.size S.out.bel) (by have := HT.out; omega) (HS.out.up S.out.bel.size S.out.bel) (HU.out.up S.out.bel.size S.out.bel) HD.out).mono ?_
  rintro e wc5 ⟨rfl, bb⟩
  replace S := Lib.hid (S.out.below bb)
  clear bb xx0 xx1 xx2 xx3 xx4 xx5 xx6
  have x0 := S.out.v0
  have x1 := S.out.a0
  have x2 := S.out.a1
  go_upto_region 5 with fail
  refine wp_region_held_drew (S := BelS wc5) (by kernel_rfl) (BelS.drew0 _) (fun J0 => ?_)
  refine wpAnyH_ready (rs := [0]) (by kernel_rfl) (by simp) ?_
  refine AllReadyH.cons rfl (fun K hK => ?_) AllReadyH.nil
  go_simp
  refine (sanity_any _).mono ?_
  rintro e wq1 ⟨rfl, hq1⟩
  have J1 := J0.below hq1
  clear hq1
  refine hK.out _ _ J1 (fun _ => ?_)
  clear hK K
  try simp only [aS]
  refine tw 1 40 J1 ?_ (hy := by intro w' hSw; have q0 := hSw.c x0; have q1 := hSw.c x1; have q2 := hSw.c x2; go_simp; try with_reducible rfl)
  try simp only [aS]
  refine tw 2 41 J1 ?_ (hy := by intro w' hSw; have q0 := hSw.c x0; have q1 := hSw.c x1; have q2 := hSw.c x2; go_simp; try with_reducible rfl)
  try simp only [aS]
  refine tw 3 42 J1 ?_ (hy := by intro w' hSw; have q0 := hSw.c x0; have q1 := hSw.c x1; have q2 := hSw.c x2; go_simp; try with_reducible rfl)
  try simp only [aS]
  refine tw 5 44 J1 ?_ (hy := by intro w' hSw; have q0 := hSw.c x0; have q1 := hSw.c x1; have q2 := hSw.c x2; go_simp; try with_reducible rfl)
  try simp only [aS]
  refine tw 6 45 J1 ?_ (hy := by intro w' hSw; have q0 := hSw.c x0; have q1 := hSw.c x1; have q2 := hSw.c x2; go_simp; try with_reducible rfl)
  try simp only [aS]
  refine wpAnyH_ready (rs := [4]) (by kernel_rfl) (by simp) ?_
  refine AllReadyH.cons rfl (fun K hK => ?_) AllReadyH.nil
  go_simp
  refine (CheckCase_any _ _ ws s r _ (H.out.up (S.out.bel.trans ((BelS.b J1).mono S.out.bel.size)).size (S.out.bel.trans ((BelS.b J1).mono S.out.bel.size))) (by have := HT.out; omega) (HS.out.up (S.out.bel.trans ((BelS.b J1).mono S.out.bel.size)).size (S.out.bel.trans ((BelS.b J1).mono S.out.bel.size))) HR.out).mono ?_
  rintro e wq2 ⟨rfl, hq2⟩
  have J2 := J1.below hq2
  clear hq2
  refine hK.out _ _ J2 (fun _ => ?_)
  clear hK K
  try simp only [aS]
  refine wpAnyH_ready (rs := [7]) (by kernel_rfl) (by simp) ?_
  refine AllReadyH.cons rfl (fun K hK => ?_) AllReadyH.nil
  go_simp
  refine (rCheckCase_any _ _ ws s r _ (H.out.up (S.out.bel.trans ((BelS.b J2).mono S.out.bel.size)).size (S.out.bel.trans ((BelS.b J2).mono S.out.bel.size))) (by have := HT.out; omega) (HS.out.up (S.out.bel.trans ((BelS.b J2).mono S.out.bel.size)).size (S.out.bel.trans ((BelS.b J2).mono S.out.bel.size))) HR.out).mono ?_
  rintro e wq3 ⟨rfl, hq3⟩
  have J3 := J2.below hq3
  clear hq3
  refine hK.out _ _ J3 (fun _ => ?_)
  clear hK K
  try simp only [aS]
  refine tw 8 47 J3 ?_ (hy := by intro w' hSw; have q0 := hSw.c x0; have q1 := hSw.c x1; have q2 := hSw.c x2; go_simp; try with_reducible rfl)
  try simp only [aS]
  refine tw 9 48 J3 ?_ (hy := by intro w' hSw; have q0 := hSw.c x0; have q1 := hSw.c x1; have q2 := hSw.c x2; go_simp; try with_reducible rfl)
  try simp only [aS]
  refine tw 10 49 J3 ?_ (hy := by intro w' hSw; have q0 := hSw.c x0; have q1 := hSw.c x1; have q2 := hSw.c x2; go_simp; try with_reducible rfl)
  try simp only [aS]
  refine tw 11 50 J3 ?_ (hy := by intro w' hSw; have q0 := hSw.c x0; have q1 := hSw.c x1; have q2 := hSw.c x2; go_simp; try with_reducible rfl)
  try simp only [aS]
  refine tw 12 51 J3 ?_ (hy := by intro w' hSw; have q0 := hSw.c x0; have q1 := hSw.c x1; have q2 := hSw.c x2; go_simp; try with_reducible rfl)
  try simp only [aS]
  refine tw 13 52 J3 ?_ (hy := by intro w' hSw; have q0 := hSw.c x0; have q1 := hSw.c x1; have q2 := hSw.c x2; go_simp; try with_reducible rfl)
  try simp only [aS]
  refine tw 14 53 J3 ?_ (hy := by intro w' hSw; have q0 := hSw.c x0; have q1 := hSw.c x1; have q2 := hSw.c x2; go_simp; try with_reducible rfl)
  try simp only [aS]
  refine tw 15 54 J3 ?_ (hy := by intro w' hSw; have q0 := hSw.c x0; have q1 := hSw.c x1; have q2 := hSw.c x2; go_simp; try with_reducible rfl)
  try simp only [aS]
  refine tw 16 55 J3 ?_ (hy := by intro w' hSw; have q0 := hSw.c x0; have q1 := hSw.c x1; have q2 := hSw.c x2; go_simp; try with_reducible rfl)
  try simp only [aS]
  refine tw 17 56 J3 ?_ (hy := by intro w' hSw; have q0 := hSw.c x0; have q1 := hSw.c x1; have q2 := hSw.c x2; go_simp; try with_reducible rfl)
  try simp only [aS]
  refine tw 18 57 J3 ?_ (hy := by intro w' hSw; have q0 := hSw.c x0; have q1 := hSw.c x1; have q2 := hSw.c x2; go_simp; try with_reducible rfl)
  try simp only [aS]
  refine tw 19 58 J3 ?_ (hy := by intro w' hSw; have q0 := hSw.c x0; have q1 := hSw.c x1; have q2 := hSw.c x2; go_simp; try with_reducible rfl)
  try simp only [aS]
  refine tw 20 6 J3 ?_ (hy := by intro w' hSw; have q0 := hSw.c x0; have q1 := hSw.c x1; have q2 := hSw.c x2; go_simp; try with_reducible rfl)
  try simp only [aS]
  refine wpAnyH_done (by kernel_rfl) ?_ _
  have BE := Lib.hid (S.out.bel.trans ((BelS.b J3).mono S.out.bel.size))
  clear x0 x1 x2
  go_wp2_with fail
  go_ret
  exact ⟨rfl, BE.out⟩
end Go.Proofs.Ytkoacclbempmdaa

/- How a case that came in is opened. -/
namespace Go.Proofs.Ytkoacclbempmdaa
open Go.ChangeShapes Go.WideShapes Go.ChangeAt Go.RowKit Go.Joins
section
variable {H : Type} {enc : TypeId × Value → H} {W : World} {base : Nat} {sp : Nat → Bool}
set_option maxRecDepth 100000 in
/-- Spans. -/
theorem spans_open {fuel : Nat} {v : Value} {y : DataW H × List MemPlace} (h : DataW.trod enc Try.prog W base sp true fuel 44 [v] = some y) (hw : WB 44 y.1) : ∃ l : List (Int × Int), RR enc2 W.heap.size v l W := by
  obtain ⟨A, c, l, e, hf, hr⟩ := row_open (α := Int × Int) Try.underlying44 qcellsS (by decide) pbS (fun n b o => W.cell? ⟨b, o, none⟩ = some (.int .i64 n.1) ∧ W.cell? ⟨b, o + 1, none⟩ = some (.int .i64 n.2)) (fun fuel a x _ hx => by
    obtain ⟨cs, hl, hc, h2⟩ := cells_of hx
    match cs, hl with
    | [u0, u1], _ =>
      obtain ⟨p, f, rfl, rfl⟩ := span_of h2
      have h0 := hc 0 (by decide)
      have h1 := hc 1 (by decide)
      rw [Addr.add_zero'] at h0
      refine ⟨(p, f), ⟨_, h0.trans rfl⟩, fun hs => ?_⟩
      rw [add_plain hs] at h1
      obtain ⟨b, o, s⟩ := a
      simp only at hs
      subst hs
      exact ⟨h0.trans rfl, h1.trans rfl⟩) h hw
  refine ⟨l, A, c, e, hf, fun hp => ?_⟩
  obtain ⟨b, o, e1, e2, hh⟩ := hr hp
  refine ⟨b, o, e1, e2, fun j u hj => ?_⟩
  obtain ⟨k, i, x, hk, hi, rfl, hu⟩ := E2.inv hj
  obtain ⟨g1, g2⟩ := hh k x hk
  match i, hi with
  | 0, _ => cases hu; exact g1
  | 1, _ => cases hu; exact g2
set_option maxRecDepth 100000 in
/-- A case that came in. -/
theorem case_open {b0 : Nat} {v : Value} {d : DataW H} {p : List MemPlace} (hv : Value.okWide Try.prog W .any b0 46 v) (h : DataW.Trod enc Try.prog W base sp true 46 v d p) (hw : WB 46 d) : ∃ s : Ca, RCa W.heap.size v s W := by
  obtain ⟨v0, v1, y0, y1, m, rfl, rfl, _, h0, h1⟩ := open_agg2 Try.underlying46 (by kernel_rfl) qcellsK hv h
  have hw' := hw.agg Try.underlying46
  obtain ⟨l0, r0⟩ := spans_open h0 (hw' 0 _ y0.1 rfl rfl)
  obtain ⟨l1, r1⟩ := spans_open h1 (hw' 1 _ y1.1 rfl rfl)
  exact ⟨⟨l0, l1⟩, _, _, rfl, r0, r1⟩
end
end Go.Proofs.Ytkoacclbempmdaa

/- The law CarrierCases holds for every input: the row. -/
namespace Go.Proofs.Ytkoacclbempmdaa
open Go.ChangeShapes Go.WideShapes Go.ChangeAt Go.RowKit Go.Joins

namespace carrierCases
def wargs : Array Value := #[.agg #[.slice none 0 0], .agg #[.slice none 0 0, .slice none 0 0], .agg #[.slice none 0 0, .slice none 0 0, .slice none 0 0, .slice none 0 0]]
theorem laid_met (os : Os) : laidMet Try.prog Rows.carrierCasesRow.laid ((World.holding Try.prog os ⟨#[], #[], []⟩).forCall (fun _ _ => 0) ⟨#[], wargs, []⟩).memory :=
  laidMet_of_run' 8 (by kernel_rfl) (by kernel_rfl)
theorem reads (os : Os) {H : Type} (enc : TypeId × Value → H) : ∃ places, DataW.whole enc Try.prog ((World.holding Try.prog os ⟨#[], #[], []⟩).forCall (fun _ _ => 0) ⟨#[], wargs, []⟩).memory Try.f12.params.toList Rows.carrierCasesSpec.vars false wargs.toList 8 = some ([.agg [.nil], .agg [.nil, .nil], .agg [.nil, .nil, .nil, .nil]], [], places) :=
  ⟨[], by kernel_rfl⟩

set_option maxHeartbeats 1000000 in
set_option maxRecDepth 100000 in
/-- What the walk gives, for every argument. -/
theorem contract (H : Type) (enc : TypeId × Value → H) (W : World) (base : Nat) (args : Array Value) (ds gs : List (DataW H)) (before : List MemPlace)
    (hval : ∀ (j : Nat) t v, Try.f12.params[j]? = some t → args[j]? = some v → Value.okWide Try.prog W .any base t v)
    (hW : DataW.Whole enc Try.prog Try.f12.params.toList Rows.carrierCasesSpec.vars false W args.toList ds gs before)
    (hwt : (DataW.weightsEach Try.prog (Try.f12.params.toList ++ DataSpec.varTypes Try.prog (OpenSpec.ofChange Rows.carrierCasesSpec).bare.plain) (ds ++ gs)).all (· ≤ reachBytes) = true) :
    Calls Try.prog 12 args W fun e W' => ∃ v, e = .returned v ∧ Rows.carrierCasesSpec.post enc Try.prog Try.f12 false true false false W args v W' := by
  have hW' := hW
  obtain ⟨p, q, hA0, hV, rfl, hfz, hnd⟩ := hW
  have hA : DataW.TrodAll enc Try.prog W 0 (fun _ => true) true Try.f12.params.toList args.toList ds p := hA0
  have hAk := hA
  have hsize : ∀ t ∈ Try.f12.params.toList, t < Try.prog.types.size := by rw [Try.params12]; decide +kernel
  have hwt' := hwt
  rw [Try.params12] at hA hval hwt'
  obtain ⟨v0, vs0, d0, ds0, p0, q0, hargs, rfl, rfl, h0, r0⟩ := trodAll_cons hA
  obtain ⟨v1, vs1, d1, ds1, p1, q1, rfl, rfl, rfl, h1, r1⟩ := trodAll_cons r0
  obtain ⟨v2, vs2, d2, ds2, p2, q2, rfl, rfl, rfl, h2, r2⟩ := trodAll_cons r1
  obtain ⟨rfl, rfl, rfl⟩ := trodAll_nil r2
  obtain rfl : args = #[v0, v1, v2] := by cases args; simp_all
  obtain ⟨rfl, rfl⟩ := trodVars_none hV
  obtain ⟨A, c, ws, rfl, hk⟩ := works_open (hval 0 24 v0 rfl rfl) h0 (WB.each _ _ hwt' 0 _ _ rfl rfl)
  obtain ⟨s1, hs1⟩ := case_open (hval 1 46 v1 rfl rfl) h1 (WB.each _ _ hwt' 1 _ _ rfl rfl)
  obtain ⟨s2, hs2⟩ := water_open (hval 2 27 v2 rfl rfl) h2 (WB.each _ _ hwt' 2 _ _ rfl rfl)
  have hcall := cases_law A c v1 v2 ws s1 s2 W hk hs1 hs2
  refine hcall.mono fun e W' ⟨he, hb⟩ => ?_
  subst he
  refine ⟨_, rfl, _, _, _, [], _, [], hW', ?_, args_again hb hsize hAk, ?_, hb.frame _, fun h => by cases h⟩
  · exact trodAll_cons_mk (shut_bool Try.underlying4 _) trodAll_mk0
  · rfl

set_option maxRecDepth 100000 in
theorem lifted (os : Os) (started : os.Started) (H : Type) (enc : TypeId × Value → H) (F : Stop.Interp) :
    ReturnsInHanded {} Try.checked os 12 .any ((OpenSpec.ofChange Rows.carrierCasesSpec).preRow enc Try.prog Try.f12 Rows.carrierCasesRow.domain false Rows.carrierCasesRow.laid) (((OpenSpec.ofChange Rows.carrierCasesSpec).at F).post enc Try.prog Try.f12 false true false false) := by
  obtain ⟨places, hx⟩ := reads os enc
  refine returnsInHanded_of_row (C := Try.checked) (s := OpenSpec.ofChange Rows.carrierCasesSpec) own started (by kernel_rfl) Try.func12
    (witness_row_at (enc := enc) (C := Try.checked) false (World.holding Try.prog os ⟨#[], #[], []⟩) wargs rfl (by kernel_rfl) (by kernel_rfl) (by kernel_rfl)
      (OpenSpec.preRow_of_cond 8 hx (by kernel_rfl) (fun k hk => by cases hk) (by kernel_rfl) (laid_met os))) ?_
  intro W base args ds gs before hval hW _ _ hwt hL _ _
  exact contract H enc W base args ds gs before hval hW hwt

theorem said : Rows.CarrierCasesSaid :=
  OpenClaim.holds_of_cond 12 Try.f12 rfl rfl rfl rfl rfl rfl rfl ⟨rfl, rfl, rfl, rfl, rfl⟩ rfl rfl rfl rfl rfl (by kernel_rfl) Try.func12 (by kernel_rfl)
    (of_decide_eq_true (by kernel_rfl)) (by unfold Func.isWrapper; first | (rw [if_pos (by decide +kernel)]; kernel_rfl) | (rw [if_neg (by decide +kernel)]; exact ⟨rfl, rfl⟩))
    (fun os started H enc _ F => by rw [OpenClaim.pre_eq_preRow]; exact lifted os started H enc F)
end carrierCases
theorem carrierCases_holds : Rows.CarrierCasesSaid := carrierCases.said
end Go.Proofs.Ytkoacclbempmdaa
