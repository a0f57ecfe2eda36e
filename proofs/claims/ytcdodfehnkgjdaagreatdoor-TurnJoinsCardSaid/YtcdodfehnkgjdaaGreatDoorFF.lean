/- Contract of around: the marks of a round of all turns, up to its least period. -/
import Derived.Test.YtcdodfehnkgjdaaGreatDoorF1
import Derived.Test.YtcdodfehnkgjdaaGreatDoorMM
import Derived.Test.YtcdodfehnkgjdaaGreatDoorE5
namespace Go.Proofs.YtcdodfehnkgjdaaGreatDoor
open Go.RowKit
attribute [local go_sem] Oper.semAt_some

theorem infoBool : (Tryz.prog.info? 4).map (fun i => (i.zero, i.size, i.bytes)) = some (some (.bool false), 1, 1) := by kernel_rfl
/-- Beyond the greatest period, at some turn. -/
def Over (ts : List T3) : Prop := ∃ k, k ≤ ts.length ∧ 40320 < lcmS (ts.take k)
/-- The marks of the whole round. -/
def roundOf (ts : List T3) : List Bool := marks (lcmS ts).toNat (setB (lotsOf ts []))
/-- What around returns: the marks of the least period, or an error. -/
def AroundPost (ts : List T3) (w : World) (e : Ending) (w' : World) : Prop :=
  (Over ts ∧ e = .returned (.tuple #[.slice none 0 0, .int .i64 2]) ∧ Below w.heap.size w w') ∨
  (¬ Over ts ∧ 1 ≤ lcmS ts ∧ lcmS ts ≤ 40320 ∧ ∃ (g p : Nat), 1 ≤ p ∧ p ≤ (roundOf ts).length ∧ RepB (roundOf ts) p ∧ (∀ q, 1 ≤ q → q < p → ¬ RepB (roundOf ts) q) ∧
    e = .returned (.tuple #[.slice (some ⟨g, 0, none⟩) p (roundOf ts).length, .int .i64 0]) ∧ w.heap.size ≤ g ∧ RB (.slice (some ⟨g, 0, none⟩) (roundOf ts).length (roundOf ts).length) (roundOf ts) w' ∧ Below w.heap.size w w')

def boolRow (l : List Bool) : List Value := l.map Value.bool
/-- What around keeps between two runs. -/
def AroundI (gB g n base : Nat) (w : World) (_ : List Nat) (pre : List S2) (W : World) : Prop :=
  Boxed W gB 93 (.slice (some ⟨g, 0, none⟩) n n) ∧ W.ownsRow base 4 1 (.slice (some ⟨g, 0, none⟩) n n) n (boolRow (marks n (inAny pre))) ∧ Below w.heap.size w W
theorem boolRow_at (l : List Bool) (k : Nat) (x : Bool) (h : l[k]? = some x) : (boolRow l)[k]? = some (.bool x) := by simp [boolRow, h]
theorem boolRow_set (l : List Bool) (k : Nat) (x : Bool) : (boolRow l).set k (.bool x) = boolRow (l.set k x) := by simp [boolRow]
theorem rb_of_row {W : World} {base g n : Nat} {l : List Bool} (hl : l.length = n) (hn : n ≤ 1000000000000) (h : W.ownsRow base 4 1 (.slice (some ⟨g, 0, none⟩) n n) n (boolRow l)) : RB (.slice (some ⟨g, 0, none⟩) n n) l W := by
  refine ⟨_, n, by rw [hl], by omega, fun _ => ⟨g, 0, rfl, fun k x hk => ?_⟩⟩
  have hkl := (List.getElem?_eq_some_iff.1 hk).1
  rw [Nat.zero_add]
  exact (World.ownsRow.cellAt h k (by omega)).trans (boolRow_at l k x hk)
theorem rb_grownL {W W' : World} {g o n c : Nat} {l : List Bool} {bs : List Nat} (h : RB (.slice (some ⟨g, o, none⟩) n c) l W) (hg : GrownL bs W W') (hn : g ∉ bs) : RB (.slice (some ⟨g, o, none⟩) n c) l W' := by
  obtain ⟨A, c', e, n1, hx⟩ := h
  obtain ⟨rfl, rfl, rfl⟩ : some ⟨g, o, none⟩ = A ∧ n = l.length ∧ c = c' := by simpa using e
  refine ⟨_, c, rfl, n1, fun hp => ?_⟩
  obtain ⟨b', o', e', hc⟩ := hx hp
  obtain ⟨rfl, rfl⟩ : g = b' ∧ o = o' := by simpa using e'
  exact ⟨g, o, rfl, fun k x hk => hg.cell (hc k x hk) hn⟩
theorem marks_false (n : Nat) : (madeCells #[Value.bool false] (n * 1)).toList = boolRow (marks n (inAny [])) := by
  rw [Nat.mul_one, toList_madeCells_one]
  apply List.ext_getElem?
  intro j
  by_cases hj : j < n
  · rw [boolRow_at _ _ _ (marks_at n _ j hj)]; simp [hj, inAny]
  · rw [List.getElem?_eq_none (by simp; omega), List.getElem?_eq_none (by simp [boolRow, marks_len]; omega)]

theorem least_one (P : Nat → Prop) : ∀ n : Nat, 1 ≤ n → P n → ∃ p, 1 ≤ p ∧ p ≤ n ∧ P p ∧ ∀ q, 1 ≤ q → q < p → ¬ P q := by
  intro n
  induction n using Nat.strongRecOn with
  | ind n ih =>
    intro h1 hn
    by_cases h : ∃ q, 1 ≤ q ∧ q < n ∧ P q
    · obtain ⟨q, q1, q2, q3⟩ := h
      obtain ⟨p, a, b, c, d⟩ := ih q q2 q1 q3
      exact ⟨p, a, by omega, c, d⟩
    · exact ⟨n, h1, Nat.le_refl _, hn, fun q q1 q2 q3 => h ⟨q, q1, q2, q3⟩⟩
/-- The least period of a list, and shortest's contract at it. -/
theorem shortest_fix (l : List Bool) (h0 : 1 ≤ l.length) : ∃ p, 1 ≤ p ∧ p ≤ l.length ∧ RepB l p ∧ (∀ q, 1 ≤ q → q < p → ¬ RepB l q) ∧
    ∀ (b o : Nat) (w : World), RB (.slice (some ⟨b, o, none⟩) l.length l.length) l w → Calls Tryz.prog 76 #[.slice (some ⟨b, o, none⟩) l.length l.length] w fun e w' => e = .returned (.int .i64 p) ∧ ∃ n, w' = w.drewN n := by
  obtain ⟨p, p1, p2, p3, p4⟩ := least_one (RepB l) l.length h0 (repB_full l)
  refine ⟨p, p1, p2, p3, p4, fun b o w h => (shortest_any b o l w h0 h).mono ?_⟩
  rintro e w' ⟨p', n, rfl, q1, q2, q3, q4, hw⟩
  have e : p' = p := by
    rcases Nat.lt_trichotomy p' p with h | h | h
    · exact absurd q3 (p4 p' q1 h)
    · exact h
    · exact absurd p3 (q4 p p1 h)
  subst e
  exact ⟨rfl, n, hw⟩

set_option maxHeartbeats 4000000 in
set_option maxRecDepth 1000000 in
theorem around_main (v : Value) (ts : List T3) (w : World) (h : RM w.heap.size v ts [] w) (hc : CheckIs ts [] 0) (h1 : 1 ≤ ts.length) :
    Calls Tryz.prog 56 #[v] w (AroundPost ts w) := by
  obtain ⟨i0, hi, hz0, hz1, hz2⟩ := info_parts infoBool
  obtain ⟨k1, k2, k3⟩ := checkIs_ok hc
  have H := Lib.hid h
  obtain ⟨A, m, ca, A', m', ca', rfl, r1, r2⟩ := h
  obtain ⟨A1, c1, e1, n1, hx⟩ := r1
  obtain ⟨rfl, rfl, rfl⟩ : A = A1 ∧ m = ts.length ∧ ca = c1 := by simpa using e1
  obtain ⟨A2, c2, e2, n2, hy⟩ := r2
  obtain ⟨rfl, rfl, rfl⟩ : A' = A2 ∧ m' = 0 ∧ ca' = c2 := by simpa using e2
  obtain ⟨bt, ot, rfl, hbt, hct⟩ := hx (by omega)
  have HCT := Lib.hid hct
  have C : Hid (∀ W, Below w.heap.size w W → w.heap.size ≤ W.heap.size → Calls Tryz.prog 12 #[.agg #[.slice (some ⟨bt, ot, none⟩) ts.length ca, .slice A' 0 ca']] W fun e w' => e = .returned (.int .i64 0) ∧ Below W.heap.size W w') :=
    Lib.hid fun W hb hs => check_any _ _ ts [] 0 W (by
      obtain ⟨a, b, c, d, f, g, e, q1, q2⟩ := H.out.up hs hb
      obtain ⟨⟨rfl, rfl, rfl⟩, rfl, rfl, rfl⟩ : ((some ⟨bt, ot, none⟩ = a) ∧ ts.length = b ∧ ca = c) ∧ A' = d ∧ 0 = f ∧ ca' = g := by simpa using e
      exact q1) (by
      obtain ⟨a, b, c, d, f, g, e, q1, q2⟩ := H.out.up hs hb
      obtain ⟨⟨rfl, rfl, rfl⟩, rfl, rfl, rfl⟩ : ((some ⟨bt, ot, none⟩ = a) ∧ ts.length = b ∧ ca = c) ∧ A' = d ∧ 0 = f ∧ ca' = g := by simpa using e
      exact q2) hc
  have HK := Lib.hid k3
  have HC := Lib.hid hc
  clear hx hy e1 e2 hct k3 hc
  refine (callsIn_wide (n := 3)).1 ?_
  refine callsIn_of_wp_marks Tryz.func56 rfl trivial ?_ rfl
  simp only [Tryz.ntmps56, List.size_toArray, List.length_cons, List.length_nil, Nat.reduceAdd, Nat.reduceSub, Array.replicate_succ, Array.replicate_zero, List.push_toArray, List.append_toArray, List.nil_append, List.cons_append]
  have hg0 : decide ((0 : Int) < 0) = false := by decide
  have hg1 : ((ts.length : Int) == 0) = false := by rw [beq_eq_false_iff_ne]; omega
  gi_wp2_with fail
  refine ⟨trivial, (callsIn_wide.2 (C.out _ ((Below.refl w.heap.size w).alloc (Nat.le_refl _) _) (by simp))).mono ?_⟩
  rintro e w1 ⟨rfl, hb1⟩
  have hz := hb1.size
  have y0 : w1.cell? ⟨w.heap.size, 0, none⟩ = some (.slice (some ⟨bt, ot, none⟩) ts.length ca) := (hb1.cell (p := ⟨w.heap.size, 0, none⟩) (by simp)).trans (by simp [go_sem])
  have y1 : w1.cell? ⟨w.heap.size, 1, none⟩ = some (.slice A' 0 ca') := (hb1.cell (p := ⟨w.heap.size, 1, none⟩) (by simp)).trans (by simp [go_sem])
  have hl0 : w.heap.size + 1 ≤ w1.heap.size := by simpa using hz
  have B1 := Lib.hid (((Below.refl w.heap.size w).alloc (Nat.le_refl _) (.cells #[.slice (some ⟨bt, ot, none⟩) ts.length ca, .slice A' 0 ca'] 25)).trans (hb1.mono (by simp)))
  have Y := Lib.hid (And.intro y0 y1)
  clear hb1 hz
  gi_wp2_with fail
  clear hg0 hg1 y0 y1
  gi_loopw [5, 29] (fun a b wr => ∃ k : Nat, b = .int .i64 k ∧ k ≤ ts.length ∧ a = .int .i64 (lcmS (ts.take k)) ∧ (∀ j, j ≤ k → lcmS (ts.take j) ≤ 40320) ∧ Below (w.heap.size + 1) w1 wr) (fun _ b _ => ts.length - (intOf b).toNat)
  case atStart =>
    refine ⟨0, rfl, by omega, rfl, ?_, Below.refl _ _⟩
    intro j hj
    have hj0 : j = 0 := by omega
    subst hj0
    exact (by decide : (1 : Int) ≤ 40320)
  case round =>
    obtain ⟨k, rfl, hk, rfl, hle, hB⟩ := hrel
    have HLE := Lib.hid hle
    have HB := Lib.hid hB
    have hsz := hB.size
    clear hle hB
    by_cases hkn : k < ts.length
    · obtain ⟨⟨tp, tf, tl⟩, ht⟩ : ∃ t, ts[k]? = some t := ⟨_, List.getElem?_eq_getElem hkn⟩
      obtain ⟨r0, r1, r2⟩ := HCT.out k tp tf tl ht
      have hBw := B1.out.trans (HB.out.mono (by omega))
      have c0 := (hBw.cell (p := ⟨bt, ot + k * 3, none⟩) hbt).trans r0
      have c1 := (hBw.cell (p := ⟨bt, ot + k * 3 + 1, none⟩) hbt).trans r1
      have c2 := (hBw.cell (p := ⟨bt, ot + k * 3 + 2, none⟩) hbt).trans r2
      have hk0 : (k : Int) < (ts.length : Int) := by omega
      obtain ⟨t1, t2, -⟩ := HK.out.1 _ (List.mem_of_getElem? ht)
      have hp := lcmS_pos _ (ts.take k) rfl (fun t q => (HK.out.1 t (List.mem_of_mem_take q)).1)
      have hq := HLE.out k (Nat.le_refl _)
      have HT : Hid (lcmS (ts.take (k + 1)) = lcmF (lcmS (ts.take k)) tp) := Lib.hid (by
        obtain ⟨q1, q2⟩ := List.getElem?_eq_some_iff.1 ht
        rw [List.take_succ_eq_append_getElem q1, lcmS_snoc, q2])
      simp only at t1 t2
      have HBw := Lib.hid hBw
      clear ht r0 r1 r2 hBw
      generalize lcmS (ts.take k) = L at *
      have M : Hid (∀ W, Calls Tryz.prog 52 #[.int .i64 L, .int .i64 tp] W fun e w' => e = .returned (.int .i64 (lcmF L tp)) ∧ ∃ n, w' = W.drewN n) := Lib.hid fun W => multiple_any L tp W hp t1 (by omega) (by omega)
      generalize lcmF L tp = L2 at *
      gi_wp2_with fail
      refine ⟨trivial, (callsIn_wide.2 (M.out _)).mono ?_⟩
      rintro e w4 ⟨rfl, n4, hw4⟩
      have HB4 : Hid (Below (w.heap.size + 1) w1 w4) := Lib.hid (by
        rw [hw4]
        have := HB.out.alloc (by omega) (.cells #[.int .i64 tp, .int .i64 tf, .int .i64 tl] 42)
        exact ⟨this.os, this.tape, this.output, this.size, this.block⟩)
      clear hw4
      by_cases hov : 40320 < L2
      · gi_wp2_with fail
        exact ⟨_, results_tmp2 rfl _ _ _, .inl ⟨⟨k + 1, by omega, by rw [HT.out]; exact hov⟩, rfl, B1.out.trans (HB4.out.mono (by omega))⟩⟩
      · gi_wp2_with fail
        go_roundw
        case rel =>
          refine ⟨k + 1, by go_num, by omega, by rw [HT.out], ?_, HB4.out⟩
          intro j hj
          by_cases hjk : j ≤ k
          · exact HLE.out j hjk
          · obtain rfl : j = k + 1 := by omega
            rw [HT.out]; omega
        case measure => show ts.length - ((k : Int) + 1).toNat < ts.length - (k : Int).toNat; omega
    · obtain rfl : k = ts.length := by omega
      rw [List.take_length]
      have hL1 := lcmS_pos _ ts rfl (fun t q => (HK.out.1 t q).1)
      have hL2 : lcmS ts ≤ 40320 := by have := HLE.out ts.length (Nat.le_refl _); rwa [List.take_length] at this
      have HNO : Hid (¬ Over ts) := Lib.hid (by rintro ⟨j, hj, hjo⟩; have := HLE.out j hj; omega)
      obtain ⟨n, hn⟩ : ∃ n : Nat, lcmS ts = n := ⟨(lcmS ts).toNat, by omega⟩
      rw [hn] at hL1 hL2 ⊢
      have HN := Lib.hid hn
      clear hn
      obtain ⟨w5, hmk, hown, hgrow⟩ := run_makeSlice_full (P := Tryz.prog) wr wr.heap.size 93 4 i0 (.bool false) 1 Tryz.underlying93 hi hz0 hz1 .i64 .i64 n (by omega) (by rw [hz2]; omega) (by unfold maxLen; omega) (Nat.le_refl _)
      have hs5 := hgrow.size
      have hB5 : Below (w.heap.size + 1) w1 w5 := HB.out.trans ⟨hgrow.os, hgrow.tape, hgrow.output, hgrow.size, fun j hj => hgrow.block j (by omega) (by simp)⟩
      have y0 : w5.cell? ⟨w.heap.size, 0, none⟩ = some (.slice (some ⟨bt, ot, none⟩) ts.length ca) := (hB5.cell (p := ⟨w.heap.size, 0, none⟩) (by simp)).trans Y.out.1
      have y1 : w5.cell? ⟨w.heap.size, 1, none⟩ = some (.slice A' 0 ca') := (hB5.cell (p := ⟨w.heap.size, 1, none⟩) (by simp)).trans Y.out.2
      have z0 : (w5.alloc (.cells #[.slice (some ⟨wr.heap.size, 0, none⟩) n n] 93)).cell? ⟨w.heap.size, 0, none⟩ = some (.slice (some ⟨bt, ot, none⟩) ts.length ca) := (World.cell?_alloc_lt _ _ _ (by show w.heap.size < _; omega)).trans y0
      have z1 : (w5.alloc (.cells #[.slice (some ⟨wr.heap.size, 0, none⟩) n n] 93)).cell? ⟨w.heap.size, 1, none⟩ = some (.slice A' 0 ca') := (World.cell?_alloc_lt _ _ _ (by show w.heap.size < _; omega)).trans y1
      have HOwn := Lib.hid hown
      have HB5 := Lib.hid hB5
      clear hown hgrow hB5 y0 y1
      gi_wp2_with fail
      refine ⟨trivial, (callsIn_wide.2 (runs_any (some ⟨bt, ot, none⟩) ts.length ca A' 0 ca' 0 ((n : Int) - 1) _)).mono ?_⟩
      rintro e w2 ⟨rfl, rfl⟩
      have b3 : Below w5.heap.size w5 (((w5.alloc (.cells #[.slice (some ⟨wr.heap.size, 0, none⟩) n n] 93)).alloc (.cells #[.slice (some ⟨bt, ot, none⟩) ts.length ca, .slice A' 0 ca'] 25)).alloc (.cells #[.int .i64 0, .int .i64 ((n : Int) - 1)] 45)) :=
        (((Below.refl w5.heap.size w5).alloc (Nat.le_refl _) _).alloc (by simp) _).alloc (by simp; omega) _
      have hbw := (B1.out.trans (HB5.out.mono (by omega))).trans (b3.mono (by omega))
      have hrm2 := H.out.up (B' := w5.heap.size + 3) (by omega) hbw
      have x0 := ((Boxed.new w5 93 (.slice (some ⟨wr.heap.size, 0, none⟩) n n)).alloc (.cells #[.slice (some ⟨bt, ot, none⟩) ts.length ca, .slice A' 0 ca'] 25)).alloc (.cells #[.int .i64 0, .int .i64 ((n : Int) - 1)] 45)
      have row0 := ((HOwn.out.alloc (.cells #[.slice (some ⟨wr.heap.size, 0, none⟩) n n] 93)).alloc (.cells #[.slice (some ⟨bt, ot, none⟩) ts.length ca, .slice A' 0 ca'] 25)).alloc (.cells #[.int .i64 0, .int .i64 ((n : Int) - 1)] 45)
      rw [show (Value.cells (.bool false)) = #[.bool false] from rfl, marks_false n] at row0
      have hg5 := (HOwn.out.lt _ rfl).2
      gi_wp2_with fail
      obtain ⟨W0, hW0⟩ : ∃ W0, (((w5.alloc (.cells #[.slice (some ⟨wr.heap.size, 0, none⟩) n n] 93)).alloc (.cells #[.slice (some ⟨bt, ot, none⟩) ts.length ca, .slice A' 0 ca'] 25)).alloc (.cells #[.int .i64 0, .int .i64 ((n : Int) - 1)] 45)) = W0 := ⟨_, rfl⟩
      have hz0 : W0.heap.size = w5.heap.size + 3 := by rw [← hW0]; simp
      have a2 : W0.cell? ⟨w5.heap.size + 1, 0, none⟩ = some (.slice (some ⟨bt, ot, none⟩) ts.length ca) := by rw [← hW0]; simp [go_sem]
      have a3 : W0.cell? ⟨w5.heap.size + 1, 1, none⟩ = some (.slice A' 0 ca') := by rw [← hW0]; simp [go_sem]
      have a4 : W0.cell? ⟨w5.heap.size + 1 + 1, 0, none⟩ = some (.int .i64 0) := by rw [← hW0]; simp [go_sem]
      have a5 : W0.cell? ⟨w5.heap.size + 1 + 1, 1, none⟩ = some (.int .i64 ((n : Int) - 1)) := by rw [← hW0]; simp [go_sem]
      rw [hW0] at hrm2 hbw row0 x0 b3 ⊢
      have HZ := Lib.hid hz0
      have HBW := Lib.hid hbw
      have HR0 := Lib.hid row0
      have HX0 := Lib.hid x0
      have hbase : w.heap.size ≤ wr.heap.size := by omega
      have hseq := runs_seq (w5.heap.size + 1) (w5.heap.size + 1 + 1) (some ⟨bt, ot, none⟩) ts.length ca A' 0 ca' ts [] 0 ((n : Int) - 1) W0 HK.out k1 k2 (by rw [hz0]; exact hrm2) a2 a3 a4 a5 (by omega) (by omega) (by omega)
      clear hW0 a2 a3 a4 a5 hrm2 hbw row0 x0 b3 z0 z1
      refine wpIn_rangeO (gf := 73) (lb := #[.pointer (some ⟨w5.heap.size + 1, 0, none⟩), .pointer (some ⟨w5.heap.size + 1 + 1, 0, none⟩)]) rfl enters_runs1
        hseq (Below.refl _ _) (fun _ => rfl)
        (AroundI w5.heap.size wr.heap.size n wr.heap.size w) (fun _ _ _ _ => False) ?h0 ?hI (fun _ _ _ _ _ _ h _ => h) ?round ?done ?stop
      case h0 =>
        intro W' hb hsz
        exact ⟨(hb.block _ (by omega)).trans HX0.out, ownsRow_grownL HR0.out (GrownL.of_below (bs := []) hb) (fun g e hm => by cases hm), HBW.out.trans (hb.mono (by omega))⟩
      case hI =>
        rintro O O' s W1 W2 hO ⟨hbx, hrow, hB⟩ hg hcl
        exact ⟨boxed_grownL hbx hg (not_book hO (by omega)), ownsRow_grownL hrow hg (fun g e => by
          have e' : wr.heap.size = g := by simpa [Value.ownBlock] using e
          subst e'
          exact not_book hO (by omega)), hB.trans (hg.below (book_ge hO (by omega)) (by have := hB.size; omega))⟩
      case round =>
        rintro O pre x W hO ⟨hbx, hrow, hB⟩ hsz ⟨k, hk, hek⟩
        obtain ⟨t1, t2, t3, t4, t5⟩ := spn_tot hek
        obtain ⟨x1, x2⟩ := x
        simp only at t2 t3 t4 t5
        obtain ⟨i1, hi1⟩ : ∃ i1 : Nat, x1 = i1 := ⟨x1.toNat, by omega⟩
        subst hi1
        have hx2 : x2 < (n : Int) := by omega
        have HB := Lib.hid hB
        have HR := Lib.hid hrow
        have HBx := Lib.hid hbx
        clear hB hrow hbx hek t1 t2 t5
        gi_wp2_with fail
        refine ⟨Keeps.of_below ((Below.refl _ _).alloc (Nat.le_refl _) _), fun W2 hg2 => ?_⟩
        have hwr : wr.heap.size < W.heap.size := by omega
        have d0 := boxed_grownL (HBx.out.alloc (.cells #[.int .i64 i1, .int .i64 x2] 45)) hg2 (by simp; omega)
        have r2 := ownsRow_grownL (HR.out.alloc (.cells #[.int .i64 i1, .int .i64 x2] 45)) hg2 (fun g e hm => by
          have e' : wr.heap.size = g := by simpa [Value.ownBlock] using e
          subst e'
          simp at hm; omega)
        have e0 : W2.cell? ⟨W.heap.size, 0, none⟩ = some (.int .i64 i1) := hg2.cell (p := ⟨W.heap.size, 0, none⟩) (by simp [go_sem]) (by simp; omega)
        have e1 : W2.cell? ⟨W.heap.size, 1, none⟩ = some (.int .i64 x2) := hg2.cell (p := ⟨W.heap.size, 1, none⟩) (by simp [go_sem]) (by simp; omega)
        have hs2 : W.heap.size + 1 ≤ W2.heap.size := by have := hg2.size; simpa using this
        have HB2 := Lib.hid ((HB.out.alloc (by omega) (.cells #[.int .i64 i1, .int .i64 x2] 45)).trans (hg2.below (B := w.heap.size) (by intro b hb; simp at hb; omega) (by simp; omega)))
        have R2 := Lib.hid r2
        have D0 := Lib.hid d0
        have E1 := Lib.hid e1
        have M0 : Hid (marks n (inAny pre) = marks n (fun m => inAny pre m || (decide ((i1 : Int) ≤ m) && decide (m < (i1 : Int))))) := Lib.hid (marks_congr _ _ _ (fun m _ _ => by
          by_cases c1 : (i1 : Int) ≤ m
          · have c2 : ¬ m < (i1 : Int) := by omega
            simp [c1, c2]
          · simp [c1]))
        clear hg2 d0 r2
        gi_wp2_with fail
        clear e0 e1
        gi_loopw [10] (fun u wq => ∃ i : Nat, u = .int .i64 i ∧ (i1 : Int) ≤ i ∧ (i : Int) ≤ x2 + 1 ∧ wq.ownsRow wr.heap.size 4 1 (.slice (some ⟨wr.heap.size, 0, none⟩) n n) n (boolRow (marks n (fun m => inAny pre m || (decide ((i1 : Int) ≤ m) && decide (m < (i : Int)))))) ∧ GrownL [wr.heap.size] W2 wq) (fun u _ => (x2 + 1 - intOf u).toNat)
        case atStart => exact ⟨i1, rfl, by omega, by omega, by rw [← M0.out]; exact R2.out, GrownL.refl _ _⟩
        case round =>
          obtain ⟨i, rfl, q1, q2, hrow, hgq⟩ := hrel
          have e1 := hgq.cell E1.out (by simp; omega)
          have hbq := boxed_grownL D0.out hgq (by simp; omega)
          have cbq := hbq.cell
          have HGQ := Lib.hid hgq
          have HRQ := Lib.hid hrow
          clear hgq hbq hrow
          by_cases hin : (i : Int) ≤ x2
          · have hiN : i < n := by omega
            have hcell := (World.ownsRow.cellAt HRQ.out i (by omega)).trans (boolRow_at _ i _ (marks_at n _ i hiN))
            have hfz := World.ownsRow.frozenAt HRQ.out i
            have hii : (i : Int) < (n : Int) := by omega
            generalize (inAny pre (i : Int) || (decide ((i1 : Int) ≤ i) && decide ((i : Int) < (i : Int)))) = bb at *
            gi_wp2_with fail
            go_roundw
            case rel =>
              have hst := World.ownsRow.stored HRQ.out i (.bool true)
              refine ⟨i + 1, by go_num, by omega, by omega, ?_, HGQ.out.trans (GrownL.set _ _ _ (by simp))⟩
              have e := hst.1
              rw [boolRow_set, marks_set n _ (fun m => inAny pre m || (decide ((i1 : Int) ≤ m) && decide (m < ((i + 1 : Nat) : Int)))) i hiN (by simp; omega) (fun m hm => by
                show (inAny pre m || (decide ((i1 : Int) ≤ m) && decide (m < ((i + 1 : Nat) : Int)))) = (inAny pre m || (decide ((i1 : Int) ≤ m) && decide (m < (i : Int))))
                rw [show decide (m < ((i + 1 : Nat) : Int)) = decide (m < (i : Int)) by rw [decide_eq_decide]; omega])] at e
              exact e
            case measure => show (x2 + 1 - ((i : Int) + 1)).toNat < (x2 + 1 - (i : Int)).toNat; omega
          · have hi2 : (i : Int) = x2 + 1 := by omega
            have HM : Hid (marks n (fun m => inAny pre m || (decide ((i1 : Int) ≤ m) && decide (m < (i : Int)))) = marks n (inAny (pre ++ [((i1 : Int), x2)]))) := Lib.hid (marks_congr _ _ _ (fun m _ _ => by
              rw [hi2]
              simp [inAny, List.any_append, Int.lt_add_one_iff]))
            clear hi2
            gi_wp2_with fail
            have hg := HGQ.out
            refine ⟨Keeps.of_grown hg (fun o ho hm => ?_), boxed_grownL D0.out hg (by simp; omega), ?_, HB2.out.trans (hg.below (by intro b hb; simp at hb; omega) (by omega))⟩
            · simp at ho hm
              rcases ho with ho | ho | ho
              · omega
              · omega
              · have := hO o ho; omega
            · have := HRQ.out
              rw [HM.out] at this
              exact this
      case done =>
        rintro O xs W hO hS ⟨hbx, hrow, hB⟩ hK
        have hxs : xs = spn (setB (lotsOf ts [])) 0 n := by
          have e : ((n : Int) - 1 + 1 - 0).toNat = n := by omega
          unfold AllRuns at hS
          rwa [e] at hS
        have hrl : (roundOf ts).length = n := by unfold roundOf; rw [marks_len, HN.out]; omega
        have hrm : marks n (inAny xs) = roundOf ts := by
          unfold roundOf
          rw [HN.out, show ((n : Int)).toNat = n by omega]
          exact marks_congr _ _ _ (fun m h0 h1 => by rw [hxs]; exact inAny_spn _ 0 n m h0 (by omega))
        rw [hrm] at hrow
        have hrb := rb_of_row hrl (by omega) hrow
        have cb := hbx.cell
        obtain ⟨p, p1, p2, p3, p4, p5⟩ := shortest_fix (roundOf ts) (by omega)
        have SH : Hid (∀ a : Nat, Calls Tryz.prog 76 #[.slice (some ⟨wr.heap.size, 0, none⟩) n n] (W.drewN a) fun e w' => e = .returned (.int .i64 p) ∧ ∃ m, w' = (W.drewN a).drewN m) := Lib.hid (fun a => by
          have := p5 wr.heap.size 0 (W.drewN a) (by rw [hrl]; exact hrb.drewN a)
          rwa [hrl] at this)
        have HP := Lib.hid (And.intro p1 (And.intro p2 (And.intro p3 p4)))
        have hpn : (p : Int) ≤ (n : Int) := by omega
        have hpn' : p ≤ n := by omega
        clear p1 p2 p3 p4 p5
        have HRB := Lib.hid hrb
        have HBW := Lib.hid hB
        have HK := Lib.hid hK
        have HRL := Lib.hid hrl
        clear hxs hrm hrow hS hbx hB hK hrl hrb
        gi_wp2_with fail
        refine wpIn_wide.2 ?_
        go_quiet ((go_at_call 76; exact Calls.quiet_of (SH.out _)))
        all_goals gi_wp2_with fail
        all_goals
          have G3 : GrownL [W0.heap.size] W ((W.drewN nq).putObj W0.heap.size (.deferred none)) :=
            ⟨rfl, rfl, rfl, by simp [World.putObj, World.drewN], fun k _ hn => World.putObj_heap_other (w := W.drewN nq) (fun e => hn (by simp [e]))⟩
          refine ⟨by simp, .inl ⟨_, _, rfl, run_takeDeferred (w := W.drewN nq) HK.out, ?_⟩⟩
          refine ⟨_, results_tmp2 rfl _ _ _, .inr ⟨HNO.out, by rw [HN.out]; omega, by rw [HN.out]; omega, wr.heap.size, p, HP.out.1, HP.out.2.1, HP.out.2.2.1, HP.out.2.2.2, by rw [HRL.out]; rfl, hbase, ?_, ?_⟩⟩
          · rw [HRL.out]
            exact rb_grownL HRB.out G3 (by simp; omega)
          · exact HBW.out.trans (G3.below (by intro b hb; simp at hb; omega) (by have := HBW.out.size; omega))
      case stop =>
        rintro c O pre W hO _ h _
        exact h.elim

end Go.Proofs.YtcdodfehnkgjdaaGreatDoor

/- Contract of Period, where the set is right. -/
namespace Go.Proofs.YtcdodfehnkgjdaaGreatDoor
open Go.RowKit

def PeriodPost (ts : List T3) (w : World) (e : Ending) (w' : World) : Prop :=
  ((Over ts ∧ e = .returned (.tuple #[.int .i64 0, .int .i64 2])) ∨
   (¬ Over ts ∧ 1 ≤ lcmS ts ∧ lcmS ts ≤ 40320 ∧ ∃ p : Nat, 1 ≤ p ∧ p ≤ (roundOf ts).length ∧ RepB (roundOf ts) p ∧ (∀ q, 1 ≤ q → q < p → ¬ RepB (roundOf ts) q) ∧ e = .returned (.tuple #[.int .i64 p, .int .i64 0]))) ∧ Below w.heap.size w w'

set_option maxHeartbeats 1000000 in
theorem period_main (v : Value) (ts : List T3) (w : World) (h : RM w.heap.size v ts [] w) (hc : CheckIs ts [] 0) (h1 : 1 ≤ ts.length) :
    Calls Tryz.prog 22 #[v] w (PeriodPost ts w) := by
  have H := Lib.hid h
  obtain ⟨A, m, ca, A', m', ca', rfl, -, -⟩ := h
  have C : Hid (∀ W, Below w.heap.size w W → w.heap.size ≤ W.heap.size → Calls Tryz.prog 56 #[.agg #[.slice A m ca, .slice A' m' ca']] W (AroundPost ts W)) :=
    Lib.hid fun W hb hs => around_main _ ts W (H.out.up hs hb) hc h1
  clear hc h1
  go_enter Tryz.func22, Tryz.ntmps22
  go_wp2_with fail
  refine (C.out _ ((Below.refl w.heap.size w).alloc (Nat.le_refl _) _) (by simp)).mono ?_
  rintro e w1 (⟨ho, rfl, hb⟩ | ⟨ho, l1, l2, g, p, p1, p2, p3, p4, rfl, hg, hrb, hb⟩)
  · have HB := Lib.hid (((Below.refl w.heap.size w).alloc (Nat.le_refl _) (.cells #[.slice A m ca, .slice A' m' ca'] 25)).trans (hb.mono (by simp)))
    have HO := Lib.hid ho
    clear hb ho
    go_wp2_with fail
    go_ret2
    exact ⟨.inl ⟨HO.out, rfl⟩, HB.out⟩
  · have HB := Lib.hid (((Below.refl w.heap.size w).alloc (Nat.le_refl _) (.cells #[.slice A m ca, .slice A' m' ca'] 25)).trans (hb.mono (by simp)))
    have HP := Lib.hid (And.intro ho (And.intro l1 (And.intro l2 (And.intro p1 (And.intro p2 (And.intro p3 p4))))))
    clear hb ho p1 p3 p4 l1 l2 hrb
    obtain ⟨rl, hrl⟩ : ∃ n, n = (roundOf ts).length := ⟨_, rfl⟩
    rw [← hrl]
    clear p2 hrl
    go_wp2_with fail
    go_ret2
    obtain ⟨a1, a2, a3, a4, a5, a6, a7⟩ := HP.out
    exact ⟨.inr ⟨a1, a2, a3, p, a4, a5, a6, a7, rfl⟩, HB.out⟩
end Go.Proofs.YtcdodfehnkgjdaaGreatDoor
