/- Contracts of checkAt and Next. -/
import Derived.Test.YtcdodfehnkgjdaaGreatDoorC3
namespace Go.Proofs.YtcdodfehnkgjdaaGreatDoor
open Go.RowKit

theorem below_two (w : World) (o o' : Obj) : Below w.heap.size w ((w.alloc o).alloc o') := ((Below.refl _ _).alloc (Nat.le_refl _) _).alloc (by simp) _
theorem RT.up {B B' : Nat} {v : Value} {ts : List T3} {w w' : World} (h : RT B v ts w) (hB : B ≤ B') (hb : Below B w w') : RT B' v ts w' := by
  obtain ⟨A, c, h1, h2, h3⟩ := h.below hb
  exact ⟨A, c, h1, h2, fun hp => by obtain ⟨b, o, e, hlt, hc⟩ := h3 hp; exact ⟨b, o, e, by omega, hc⟩⟩
theorem RS.up {B B' : Nat} {v : Value} {ss : List S2} {w w' : World} (h : RS B v ss w) (hB : B ≤ B') (hb : Below B w w') : RS B' v ss w' := by
  obtain ⟨A, c, h1, h2, h3⟩ := h.below hb
  exact ⟨A, c, h1, h2, fun hp => by obtain ⟨b, o, e, hlt, hc⟩ := h3 hp; exact ⟨b, o, e, by omega, hc⟩⟩
/-- A set's value, its two lists in memory below B. -/
def RM (B : Nat) (v : Value) (ts : List T3) (ss : List S2) (w : World) : Prop := ∃ A n c A' n' c', v = .agg #[.slice A n c, .slice A' n' c'] ∧ RT B (.slice A n c) ts w ∧ RS B (.slice A' n' c') ss w
theorem RM.up {B B' : Nat} {v : Value} {ts : List T3} {ss : List S2} {w w' : World} (h : RM B v ts ss w) (hB : B ≤ B') (hb : Below B w w') : RM B' v ts ss w' := by
  obtain ⟨A, n, c, A', n', c', rfl, h1, h2⟩ := h
  exact ⟨A, n, c, A', n', c', rfl, h1.up hB hb, h2.up hB hb⟩

def AtIs (c n d : Int) : Prop := (c ≠ 0 ∧ d = c) ∨ (c = 0 ∧ MOk n ∧ d = 0) ∨ (c = 0 ∧ ¬ MOk n ∧ d = 1)

set_option maxHeartbeats 1000000 in
theorem checkAt_any (v : Value) (ts : List T3) (ss : List S2) (n c d : Int) (w : World) (h : RM w.heap.size v ts ss w) (hc : CheckIs ts ss c) (hd : AtIs c n d) :
    Calls Tryz.prog 42 #[v, .int .i64 n] w fun e w' => e = .returned (.int .i64 d) ∧ Below w.heap.size w w' := by
  have H := Lib.hid h
  obtain ⟨A, m, ca, A', m', ca', rfl, h1, h2⟩ := h
  have C : Hid (∀ W, Below w.heap.size w W → w.heap.size ≤ W.heap.size → Calls Tryz.prog 12 #[.agg #[.slice A m ca, .slice A' m' ca']] W fun e w' => e = .returned (.int .i64 c) ∧ Below W.heap.size W w') :=
    Lib.hid fun W hb hs => check_any _ _ ts ss c W (h1.up hs hb) (h2.up hs hb) hc
  clear h1 h2
  rcases hd with ⟨h0, rfl⟩ | ⟨rfl, hm, rfl⟩ | ⟨rfl, hm, rfl⟩
  · have hb0 : (d != 0) = true := by rw [bne_iff_ne]; exact h0
    clear h0
    go_enter Tryz.func42, Tryz.ntmps42
    go_wp2_with fail
    refine (C.out _ ((Below.refl _ _).alloc (Nat.le_refl _) _) (by simp)).mono ?_
    rintro e w1 ⟨rfl, hb1⟩
    have B1 := Lib.hid (((Below.refl w.heap.size w).alloc (Nat.le_refl _) (.cells #[.slice A m ca, .slice A' m' ca'] 25)).trans (hb1.mono (by simp)))
    clear hb1
    go_wp2_with fail
    go_ret
    exact ⟨rfl, B1.out⟩
  · have K := Lib.hid fun W => isMinute_yes n W hm
    clear hm
    go_enter Tryz.func42, Tryz.ntmps42
    go_wp2_with fail
    refine (C.out _ ((Below.refl _ _).alloc (Nat.le_refl _) _) (by simp)).mono ?_
    rintro e w1 ⟨rfl, hb1⟩
    have B1 := Lib.hid (((Below.refl w.heap.size w).alloc (Nat.le_refl _) (.cells #[.slice A m ca, .slice A' m' ca'] 25)).trans (hb1.mono (by simp)))
    clear hb1
    go_wp2_with fail
    refine (K.out _).mono ?_
    rintro e w2 ⟨rfl, rfl⟩
    go_wp2_with fail
    go_ret
    exact ⟨rfl, B1.out⟩
  · have K := Lib.hid fun W => isMinute_no n W hm
    clear hm
    go_enter Tryz.func42, Tryz.ntmps42
    go_wp2_with fail
    refine (C.out _ ((Below.refl _ _).alloc (Nat.le_refl _) _) (by simp)).mono ?_
    rintro e w1 ⟨rfl, hb1⟩
    have B1 := Lib.hid (((Below.refl w.heap.size w).alloc (Nat.le_refl _) (.cells #[.slice A m ca, .slice A' m' ca'] 25)).trans (hb1.mono (by simp)))
    clear hb1
    go_wp2_with fail
    refine (K.out _).mono ?_
    rintro e w2 ⟨rfl, rfl⟩
    go_wp2_with fail
    go_ret
    exact ⟨rfl, B1.out⟩

/-- The numbers of which Next takes the least. -/
def nextNs (ts : List T3) (ss : List S2) (n : Int) : List Int := ts.map (fun t => mx (fromLo t.1 t.2.1 t.2.2 n) n) ++ ss.map (fun s => mx (sFrom s.1 s.2 n) n)
def nextM (ts : List T3) (ss : List S2) (n : Int) : Int := (nextNs ts ss n).foldl mn 1099511627776

/-- What Next returns. -/
def NextIs (ts : List T3) (ss : List S2) (n d r c : Int) : Prop :=
  (d ≠ 0 ∧ r = 0 ∧ c = d) ∨ (d = 0 ∧ nextM ts ss n ≤ 1048576 ∧ r = nextM ts ss n ∧ c = 0) ∨ (d = 0 ∧ 1048576 < nextM ts ss n ∧ r = 0 ∧ c = 5)

theorem next_elem {ts : List T3} {ss : List S2} {n : Int} (h : AllOk ts ss) (hn : MOk n) {b : Nat} (k : Nat) (x : Value) (m : Int) (W : World) (hx : (lotsF ts ss)[k]? = some x) (hm : (nextNs ts ss n)[k]? = some m)
    (hc : W.cell? ⟨b, 0, none⟩ = some (.int .i64 n)) (hb : b < W.heap.size) :
    Calls Tryz.prog 45 #[x, .pointer (some ⟨b, 0, none⟩)] W fun e w' => e = .returned (.int .i64 m) ∧ Below W.heap.size W w' := by
  obtain ⟨n0, n1⟩ := hn
  unfold lotsF at hx
  unfold nextNs at hm
  by_cases hk : k < ts.length
  · rw [List.getElem?_append_left (by simpa using hk), List.getElem?_map, List.getElem?_eq_getElem hk] at hx hm
    simp only [Option.map_some, Option.some.injEq] at hx hm
    subst hx hm
    exact next1_T _ _ _ n b W (h.1 _ (List.getElem_mem hk)) (by omega) (by omega) hc hb
  · rw [List.getElem?_append_right (by simp; omega), List.getElem?_map] at hx hm
    simp only [List.length_map] at hx hm
    cases hs : ss[k - ts.length]? with
    | none => rw [hs] at hx; cases hx
    | some s =>
      rw [hs] at hx hm
      simp only [Option.map_some, Option.some.injEq] at hx hm
      subst hx hm
      exact next1_S s.1 s.2 n b W hc hb

set_option maxHeartbeats 2000000 in
set_option maxRecDepth 100000 in
theorem next_any (v : Value) (ts : List T3) (ss : List S2) (n c d r q : Int) (w : World) (h : RM w.heap.size v ts ss w) (hc : CheckIs ts ss c) (hd : AtIs c n d) (hr : NextIs ts ss n d r q) :
    Calls Tryz.prog 15 #[v, .int .i64 n] w fun e w' => e = .returned (.tuple #[.int .i64 r, .int .i64 q]) ∧ Below w.heap.size w w' := by
  have H := Lib.hid h
  obtain ⟨A, m, ca, A', m', ca', rfl, h1, h2⟩ := h
  have C : Hid (∀ W, Below w.heap.size w W → w.heap.size ≤ W.heap.size → Calls Tryz.prog 42 #[.agg #[.slice A m ca, .slice A' m' ca'], .int .i64 n] W fun e w' => e = .returned (.int .i64 d) ∧ Below W.heap.size W w') :=
    Lib.hid fun W hb hs => checkAt_any _ ts ss n c d W (H.out.up hs hb) hc hd
  have L : Hid (∀ W, Below w.heap.size w W → w.heap.size ≤ W.heap.size → ts.length ≤ 24 → ss.length ≤ 40 → Calls Tryz.prog 44 #[.agg #[.slice A m ca, .slice A' m' ca']] W (LotsPost ts ss W)) :=
    Lib.hid fun W hb hs k1 k2 => lots_any _ _ ts ss W (h1.up hs hb) (h2.up hs hb) k1 k2
  clear h1 h2
  have BX := Lib.hid (below_two w (.cells #[.slice A m ca, .slice A' m' ca'] 25) (.cells #[.int .i64 n] 3))
  by_cases h0 : d = 0
  · subst h0
    have hok : ts.length ≤ 24 ∧ ss.length ≤ 40 ∧ AllOk ts ss ∧ MOk n := by
      rcases hd with ⟨a, b⟩ | ⟨a, b, _⟩ | ⟨a, b, e⟩
      · omega
      · rcases hc with ⟨_, e⟩ | ⟨e1, e2, e3, _⟩ | ⟨_, _, _, e⟩
        · omega
        · exact ⟨e1, e2, e3, b⟩
        · omega
      · omega
    have OK := Lib.hid hok
    have hr' : (nextM ts ss n ≤ 1048576 ∧ r = nextM ts ss n ∧ q = 0) ∨ (1048576 < nextM ts ss n ∧ r = 0 ∧ q = 5) := by
      rcases hr with ⟨a, _⟩ | ⟨_, a⟩ | ⟨_, a⟩
      · exact absurd rfl a
      · exact .inl a
      · exact .inr a
    clear hr hd hc hok
    have E := Lib.hid fun (b : Nat) k x m W => @next_elem ts ss n OK.out.2.2.1 OK.out.2.2.2 b k x m W
    have HM : Hid ((nextNs ts ss n).foldl mn 1099511627776 = nextM ts ss n) := Lib.hid rfl
    generalize nextM ts ss n = M at *
    go_enter Tryz.func15, Tryz.ntmps15
    go_wp2_with fail
    refine (C.out _ BX.out BX.out.size).mono ?_
    rintro e w1 ⟨rfl, hb1⟩
    obtain ⟨hcl, hfz⟩ := bcell hb1
    have hz1 : w.heap.size + 1 < w1.heap.size := by have := hb1.size; simp at this; omega
    have hz0 : w.heap.size < w1.heap.size := by omega
    have q0 : w1.cell? ⟨w.heap.size, 0, none⟩ = some (.slice A m ca) := by rw [hcl _ _ (by simp [go_sem])]; simp [go_sem]
    have q1 : w1.cell? ⟨w.heap.size, 1, none⟩ = some (.slice A' m' ca') := by rw [hcl _ _ (by simp [go_sem])]; simp [go_sem]
    have q2 : w1.cell? ⟨w.heap.size + 1, 0, none⟩ = some (.int .i64 n) := by rw [hcl _ _ (by simp [go_sem])]; simp [go_sem]
    have Q2 := Lib.hid q2
    have B1 := Lib.hid (BX.out.trans (hb1.mono (by simp; omega)))
    clear hb1 hcl hfz
    go_wp2_with fail
    refine (L.out _ B1.out B1.out.size OK.out.1 OK.out.2.1).mono ?_
    rintro e w2 ⟨lv, rfl, hown, hb2⟩
    have HO := Lib.hid hown
    have B2 := Lib.hid hb2
    have z2 := hb2.size
    clear hown hb2 q0 q1 q2
    go_wp2_with fail
    have z3 : w.heap.size + 1 < w2.heap.size := by omega
    refine (leastNext_any (.pointer (some ⟨w.heap.size + 1, 0, none⟩)) lv (w1.heap.size + 1) (ts.length + ss.length) (lotsF ts ss) (nextNs ts ss n) w2 (by simp [nextNs]) (by simp [lotsF]) HO.out (by have := OK.out.1; have := OK.out.2.1; omega) (fun k x m2 W hx hm hB => E.out _ k x m2 W hx hm ((hB.cell (p := ⟨w.heap.size + 1, 0, none⟩) z3).trans ((B2.out.cell (p := ⟨w.heap.size + 1, 0, none⟩) hz1).trans Q2.out)) (by have := hB.size; omega))).mono ?_
    rintro e w3 ⟨rfl, hb3⟩
    rw [HM.out]
    have B3 := Lib.hid (B1.out.trans ((B2.out.mono (by omega)).trans (hb3.mono (by omega))))
    clear hb3
    rcases hr' with ⟨k1, rfl, rfl⟩ | ⟨k1, rfl, rfl⟩
    · go_wp2_with fail
      go_ret2
      exact ⟨rfl, B3.out⟩
    · go_wp2_with fail
      go_ret2
      exact ⟨rfl, B3.out⟩
  · have hr' : r = 0 ∧ q = d := by
      rcases hr with ⟨_, a, b⟩ | ⟨a, _⟩ | ⟨a, _⟩
      · exact ⟨a, b⟩
      · exact absurd a h0
      · exact absurd a h0
    obtain ⟨rfl, rfl⟩ := hr'
    have hb0 : (q != 0) = true := by rw [bne_iff_ne]; exact h0
    clear h0 hr hd hc L
    go_enter Tryz.func15, Tryz.ntmps15
    go_wp2_with fail
    refine (C.out _ BX.out BX.out.size).mono ?_
    rintro e w1 ⟨rfl, hb1⟩
    have B1 := Lib.hid (BX.out.trans (hb1.mono (by simp; omega)))
    clear hb1
    go_wp2_with fail
    go_ret2
    exact ⟨rfl, B1.out⟩
end Go.Proofs.YtcdodfehnkgjdaaGreatDoor
