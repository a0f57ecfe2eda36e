/- Contracts of begins, and of the closures that say whether a byte fits. -/
import Derived.Test.YtcdodfehnkgjdaaGreatDoorA4
import Derived.Test.YtcdodfehnkgjdaaGreatDoorMM
import Derived.Test.YtcdodfehnkgjdaaGreatDoorR0
import Derived.RangeFuncBox
import Derived.Deep.LoopGhost
namespace Go.Proofs.YtcdodfehnkgjdaaGreatDoor
open Go.RowKit

set_option maxHeartbeats 1000000 in
theorem begins_any (n lo hi : Int) (w : World) (h0 : 0 ≤ n) (h1 : n ≤ 100000000) (h2 : lo ≤ 100000000) (h3 : hi ≤ 100000000) :
    Calls Tryz.prog 91 #[.int .i64 n, .int .i64 lo, .int .i64 hi] w fun e w' => e = .returned (.bool (beginsB n lo hi)) ∧ w = w' := by
  by_cases hn : n = 0
  · subst hn
    have HR : Hid (beginsB 0 lo hi = decide (lo = 0)) := Lib.hid rfl
    by_cases hl : lo = 0
    · subst hl
      go_enter Tryz.func91, Tryz.ntmps91
      go_wp2_with fail
      go_ret
      exact ⟨by rw [HR.out]; rfl, rfl⟩
    · have hl' : (lo == 0) = false := by simpa using hl
      have HL := Lib.hid hl
      clear hl
      go_enter Tryz.func91, Tryz.ntmps91
      go_wp2_with fail
      go_ret
      exact ⟨by rw [HR.out]; simp [HL.out], rfl⟩
  · have hn' : (n == 0) = false := by simpa using hn
    have HR : Hid (canL (hi + 1 - n).toNat n n lo hi = beginsB n lo hi) := Lib.hid (by unfold beginsB; rw [if_neg hn])
    generalize beginsB n lo hi = R at *
    have hn1 : 1 ≤ n := by omega
    clear hn
    go_enter Tryz.func91, Tryz.ntmps91
    go_wp2_with fail
    clear hn'
    go_loop [7, 8] (fun u v => ∃ low high : Int, u = .int .i64 low ∧ v = .int .i64 high ∧ 1 ≤ low ∧ low ≤ 1000000000 ∧ 1 ≤ high ∧ high ≤ 1000000009 ∧ canL (hi + 1 - low).toNat low high lo hi = R) (fun u _ => (hi + 1 - intOf u).toNat)
    case atStart => exact ⟨n, n, rfl, rfl, hn1, by omega, hn1, by omega, HR.out⟩
    case round =>
      obtain ⟨low, high, rfl, rfl, a1, a2, a3, a4, hr⟩ := hrel
      have HRR := Lib.hid hr
      clear hr
      by_cases c : low ≤ hi
      · by_cases c2 : lo ≤ high
        · go_wp2_with fail
          go_ret
          exact ⟨by rw [← HRR.out, canL_yes c c2]; rfl, rfl⟩
        · go_wp2_with fail
          go_round
          case rel => exact ⟨low * 10, high * 10 + 9, rfl, rfl, by omega, by omega, by omega, by omega, by rw [← HRR.out, canL_go a1 c c2]⟩
          case measure => show (hi + 1 - low * 10).toNat < (hi + 1 - low).toNat; omega
      · go_wp2_with fail
        go_ret
        exact ⟨by rw [← HRR.out, canL_stop (by omega)]; rfl, rfl⟩
end Go.Proofs.YtcdodfehnkgjdaaGreatDoor

/- Contracts of the closures that say whether a byte fits, and of the one that takes the next byte. -/
namespace Go.Proofs.YtcdodfehnkgjdaaGreatDoor
open Go.RowKit

set_option maxHeartbeats 1000000 in
theorem word1_any (c : UInt8) (s : ByteArray) (i : Nat) (bw bi : Nat) (w : World) (hi : i < s.size) (_hmx : s.size ≤ 1000000) (hw : Boxed w bw 9 (.string s)) (hb : Boxed w bi 3 (.int .i64 i)) :
    Calls Tryz.prog 89 #[.int .u8 c.toNat, .pointer (some ⟨bw, 0, none⟩), .pointer (some ⟨bi, 0, none⟩)] w fun e w' => e = .returned (.bool (decide (c = s[i]))) ∧ w = w' := by
  have h1 := hw.cell
  have h2 := hb.cell
  have h3 : (i : Int) < (s.size : Int) := by omega
  have HD : Hid (((c.toNat : Int) == (s[i].toNat : Int)) = decide (c = s[i])) := Lib.hid (by
    rw [Bool.eq_iff_iff]
    simp only [beq_iff_eq, decide_eq_true_eq]
    exact ⟨fun h => UInt8.toNat_inj.1 (by omega), fun h => by rw [h]⟩)
  clear hw hb
  go_enter Tryz.func89, Tryz.ntmps89
  go_wp2_with fail
  go_ret
  exact ⟨by rw [← HD.out]; rfl, rfl⟩

theorem boxed_set_other {W : World} {B B' : Nat} {t : TypeId} {v v' : Value} (h : Boxed W B t v) (hne : B ≠ B') : Boxed (W.setCell ⟨B', 0, none⟩ v') B t v := (Below.heap_setCell W ⟨B', 0, none⟩ v' B hne).trans h

/-- What the closure of number answers, and leaves. -/
def DigPost (bd bn : Nat) (lo hi n : Int) (dg : Nat) (c : UInt8) (w : World) (e : Ending) (w' : World) : Prop :=
  (digB lo hi n dg c = false ∧ e = .returned (.bool false) ∧ w' = w) ∨
  (digB lo hi n dg c = true ∧ e = .returned (.bool true) ∧ w' = (w.setCell ⟨bn, 0, none⟩ (.int .i64 (n * 10 + ((c.toNat : Int) - 48)))).setCell ⟨bd, 0, none⟩ (.int .i64 ((dg : Int) + 1)))

set_option maxHeartbeats 2000000 in
theorem number1_any (c : UInt8) (lo hi n : Int) (dg bd bn bl bh : Nat) (w : World) (h0 : 0 ≤ n) (h1 : n ≤ 1048576) (h2 : lo ≤ 1048577) (h3 : hi ≤ 1048576) (h4 : dg ≤ 1000000)
    (hd : Boxed w bd 3 (.int .i64 dg)) (hn : Boxed w bn 3 (.int .i64 n)) (hl : Boxed w bl 3 (.int .i64 lo)) (hh : Boxed w bh 3 (.int .i64 hi)) (hne : bd ≠ bn) :
    Calls Tryz.prog 90 #[.int .u8 c.toNat, .pointer (some ⟨bd, 0, none⟩), .pointer (some ⟨bn, 0, none⟩), .pointer (some ⟨bl, 0, none⟩), .pointer (some ⟨bh, 0, none⟩)] w (DigPost bd bn lo hi n dg c w) := by
  have c1 := hd.cell
  have c2 := hn.cell
  have c3 := hl.cell
  have c4 := hh.cell
  have f1 := hd.frozen
  have f2 := hn.frozen
  have hc : c.toNat < 256 := c.toNat_lt
  have g1 : ∀ v, (w.setCell ⟨bn, 0, none⟩ v).cell? ⟨bd, 0, none⟩ = some (.int .i64 dg) := fun v => (boxed_set_other hd hne).cell
  have g2 : ∀ v, (w.setCell ⟨bn, 0, none⟩ v).frozen? ⟨bd, 0, none⟩ = false := fun v => (boxed_set_other hd hne).frozen
  clear hd hn hl hh
  by_cases a1 : c.toNat < 48
  · have HF : Hid (digB lo hi n dg c = false) := Lib.hid (by simp [digB]; omega)
    have hb : decide ((c.toNat : Int) < 48) = true := by simp; omega
    go_enter Tryz.func90, Tryz.ntmps90
    go_wp2_with fail
    go_ret
    exact .inl ⟨HF.out, rfl, rfl⟩
  have hb1 : decide ((c.toNat : Int) < 48) = false := by simp; omega
  by_cases a2 : 57 < c.toNat
  · have HF : Hid (digB lo hi n dg c = false) := Lib.hid (by simp [digB]; omega)
    have hb : decide ((57 : Int) < (c.toNat : Int)) = true := by simp; omega
    go_enter Tryz.func90, Tryz.ntmps90
    go_wp2_with fail
    go_ret
    exact .inl ⟨HF.out, rfl, rfl⟩
  have hb2 : decide ((57 : Int) < (c.toNat : Int)) = false := by simp; omega
  by_cases a3 : 0 < dg ∧ n = 0
  · obtain ⟨a4, rfl⟩ := a3
    have HF : Hid (digB lo hi 0 dg c = false) := Lib.hid (by simp [digB]; omega)
    have hb : decide ((0 : Int) < (dg : Int)) = true := by simp; omega
    go_enter Tryz.func90, Tryz.ntmps90
    go_wp2_with fail
    go_ret
    exact .inl ⟨HF.out, rfl, rfl⟩
  have HB : Hid (digB lo hi n dg c = beginsB (n * 10 + ((c.toNat : Int) - 48)) lo hi) := Lib.hid (by
    unfold digB
    rw [decide_eq_true (show 48 ≤ c.toNat by omega), decide_eq_true (show c.toNat ≤ 57 by omega)]
    have : (decide (0 < dg) && decide (n = 0)) = false := by
      rw [Bool.and_eq_false_iff]
      by_cases q : 0 < dg
      · right; simp; intro e; exact a3 ⟨q, e⟩
      · left; simp; omega
    rw [this]; simp)
  have C : Hid (∀ W, Calls Tryz.prog 91 #[.int .i64 (n * 10 + ((c.toNat : Int) - 48)), .int .i64 lo, .int .i64 hi] W fun e w' => e = .returned (.bool (digB lo hi n dg c)) ∧ W = w') := Lib.hid fun W => by
    rw [HB.out]; exact begins_any _ lo hi W (by omega) (by omega) (by omega) (by omega)
  have HDP : Hid (DigPost bd bn lo hi n dg c w = DigPost bd bn lo hi n dg c w) := Lib.hid rfl
  obtain ⟨t, ht⟩ : ∃ t, digB lo hi n dg c = t := ⟨_, rfl⟩
  rw [ht] at C
  have HT := Lib.hid ht
  have hk : (48 : Int) ≤ (c.toNat : Int) := by omega
  have hk2 : (c.toNat : Int) ≤ 57 := by omega
  by_cases q : 0 < dg
  all_goals
    cases t
    · go_enter Tryz.func90, Tryz.ntmps90
      clear ht
      go_wp2_with fail
      refine (C.out _).mono ?_
      rintro e w' ⟨rfl, rfl⟩
      go_wp2_with fail
      go_ret
      exact .inl ⟨HT.out, rfl, rfl⟩
    · go_enter Tryz.func90, Tryz.ntmps90
      clear ht
      go_wp2_with fail
      refine (C.out _).mono ?_
      rintro e w' ⟨rfl, rfl⟩
      go_wp2_with fail
      go_ret
      exact .inr ⟨HT.out, rfl, rfl⟩

/-- A byte of a string. -/
theorem byte_at {s : ByteArray} {a : Nat} (h : a < s.size) : s.data.toList[a]? = some s[a] := by
  rw [List.getElem?_eq_getElem (by simpa using h)]; rfl

/-- What taking the next byte of a word answers, and leaves. -/
def TakeW (A : Nat) (s : ByteArray) (at_ : Nat) (c : UInt8) (w : World) (e : Ending) (w' : World) : Prop :=
  (s.data.toList[at_]? ≠ some c ∧ e = .returned (.bool false) ∧ w' = w) ∨
  (s.data.toList[at_]? = some c ∧ e = .returned (.bool true) ∧ w' = w.setCell ⟨A, 0, none⟩ (.int .i64 ((at_ : Int) + 1)))

set_option maxHeartbeats 2000000 in
theorem takeW_any (A T bw bi : Nat) (s wd : ByteArray) (at_ i : Nat) (w : World) (hi : i < wd.size) (hmx : wd.size ≤ 1000000) (hat : at_ ≤ s.size) (hsx : s.size ≤ 1000000)
    (hA : Boxed w A 3 (.int .i64 at_)) (hT : Boxed w T 9 (.string s)) (hw : Boxed w bw 9 (.string wd)) (hb : Boxed w bi 3 (.int .i64 i)) :
    Calls Tryz.prog 61 #[.func (.func 89) #[] #[.pointer (some ⟨bw, 0, none⟩), .pointer (some ⟨bi, 0, none⟩)], .pointer (some ⟨A, 0, none⟩), .pointer (some ⟨T, 0, none⟩)] w (TakeW A s at_ wd[i] w) := by
  have c1 := hA.cell
  have c2 := hT.cell
  have f1 := hA.frozen
  by_cases hend : at_ = s.size
  · have HF : Hid (s.data.toList[at_]? ≠ some wd[i]) := Lib.hid (by rw [List.getElem?_eq_none (by rw [hend]; show s.data.toList.length ≤ s.data.size; simp)]; simp)
    have hb1 : ((at_ : Int) == (s.size : Int)) = true := by simp; omega
    clear hA hT hw hb
    go_enter Tryz.func61, Tryz.ntmps61
    go_wp2_with fail
    go_ret
    exact .inl ⟨HF.out, rfl, rfl⟩
  · have hlt : at_ < s.size := by omega
    have hb1 : ((at_ : Int) == (s.size : Int)) = false := by simp; omega
    have hlt' : (at_ : Int) < (s.size : Int) := by omega
    have HS := Lib.hid (byte_at hlt)
    obtain ⟨t, ht⟩ : ∃ t, decide (s[at_] = wd[i]) = t := ⟨_, rfl⟩
    have C : Hid (∀ c : UInt8, c = s[at_] → Calls Tryz.prog 89 #[.int .u8 c.toNat, .pointer (some ⟨bw, 0, none⟩), .pointer (some ⟨bi, 0, none⟩)] w fun e w' => e = .returned (.bool t) ∧ w = w') := Lib.hid (fun c hc => by
      subst hc; rw [← ht]; exact word1_any _ wd i bw bi w hi hmx hw hb)
    have HT := Lib.hid ht
    clear ht hA hT hw hb
    cases t
    · go_enter Tryz.func61, Tryz.ntmps61
      go_wp2_with fail
      refine (C.out _ rfl).mono ?_
      rintro e w' ⟨rfl, rfl⟩
      go_wp2_with fail
      go_ret
      refine .inl ⟨?_, rfl, rfl⟩
      rw [HS.out]
      have := HT.out
      simpa using this
    · go_enter Tryz.func61, Tryz.ntmps61
      go_wp2_with fail
      refine (C.out _ rfl).mono ?_
      rintro e w' ⟨rfl, rfl⟩
      go_wp2_with fail
      go_ret
      refine .inr ⟨?_, rfl, rfl⟩
      rw [HS.out]
      have := HT.out
      simpa using this

/-- What taking the next digit answers, and leaves. -/
def TakeD (A bd bn : Nat) (s : ByteArray) (lo hi n : Int) (dg at_ : Nat) (w : World) (e : Ending) (w' : World) : Prop :=
  ((s.size ≤ at_ ∨ ∃ c, s.data.toList[at_]? = some c ∧ digB lo hi n dg c = false) ∧ e = .returned (.bool false) ∧ w' = w) ∨
  (∃ c, s.data.toList[at_]? = some c ∧ digB lo hi n dg c = true ∧ e = .returned (.bool true) ∧
    w' = ((w.setCell ⟨bn, 0, none⟩ (.int .i64 (n * 10 + ((c.toNat : Int) - 48)))).setCell ⟨bd, 0, none⟩ (.int .i64 ((dg : Int) + 1))).setCell ⟨A, 0, none⟩ (.int .i64 ((at_ : Int) + 1)))

set_option maxHeartbeats 2000000 in
theorem takeD_any (A T bd bn bl bh : Nat) (s : ByteArray) (lo hi n : Int) (dg at_ : Nat) (w : World) (h0 : 0 ≤ n) (h1 : n ≤ 1048576) (h2 : lo ≤ 1048577) (h3 : hi ≤ 1048576) (h4 : dg ≤ 1000000) (hat : at_ ≤ s.size) (hsx : s.size ≤ 1000000)
    (hA : Boxed w A 3 (.int .i64 at_)) (hT : Boxed w T 9 (.string s)) (hd : Boxed w bd 3 (.int .i64 dg)) (hn : Boxed w bn 3 (.int .i64 n)) (hl : Boxed w bl 3 (.int .i64 lo)) (hh : Boxed w bh 3 (.int .i64 hi))
    (hne : bd ≠ bn) (hA1 : A ≠ bn) (hA2 : A ≠ bd) :
    Calls Tryz.prog 61 #[.func (.func 90) #[] #[.pointer (some ⟨bd, 0, none⟩), .pointer (some ⟨bn, 0, none⟩), .pointer (some ⟨bl, 0, none⟩), .pointer (some ⟨bh, 0, none⟩)], .pointer (some ⟨A, 0, none⟩), .pointer (some ⟨T, 0, none⟩)] w (TakeD A bd bn s lo hi n dg at_ w) := by
  have c1 := hA.cell
  have c2 := hT.cell
  have f1 := hA.frozen
  by_cases hend : at_ = s.size
  · have hb1 : ((at_ : Int) == (s.size : Int)) = true := by simp; omega
    clear hA hT hd hn hl hh
    go_enter Tryz.func61, Tryz.ntmps61
    go_wp2_with fail
    go_ret
    exact .inl ⟨.inl (by omega), rfl, rfl⟩
  · have hlt : at_ < s.size := by omega
    have hb1 : ((at_ : Int) == (s.size : Int)) = false := by simp; omega
    have hlt' : (at_ : Int) < (s.size : Int) := by omega
    have HS := Lib.hid (byte_at hlt)
    have C := Lib.hid (number1_any s[at_] lo hi n dg bd bn bl bh w h0 h1 h2 h3 h4 hd hn hl hh hne)
    have g1 : ∀ u v, ((w.setCell ⟨bn, 0, none⟩ u).setCell ⟨bd, 0, none⟩ v).cell? ⟨A, 0, none⟩ = some (.int .i64 at_) := fun u v => (boxed_set_other (boxed_set_other hA hA1) hA2).cell
    have g2 : ∀ u v, ((w.setCell ⟨bn, 0, none⟩ u).setCell ⟨bd, 0, none⟩ v).frozen? ⟨A, 0, none⟩ = false := fun u v => (boxed_set_other (boxed_set_other hA hA1) hA2).frozen
    clear hA hT hd hn hl hh
    go_enter Tryz.func61, Tryz.ntmps61
    go_wp2_with fail
    refine C.out.mono ?_
    rintro e w' (⟨hF, rfl, rfl⟩ | ⟨hF, rfl, rfl⟩)
    · have HF := Lib.hid hF
      clear hF
      go_wp2_with fail
      go_ret
      exact .inl ⟨.inr ⟨_, HS.out, HF.out⟩, rfl, rfl⟩
    · have HF := Lib.hid hF
      clear hF
      go_wp2_with fail
      go_ret
      exact .inr ⟨_, HS.out, HF.out, rfl, rfl⟩
end Go.Proofs.YtcdodfehnkgjdaaGreatDoor

/- Contract of reader.word. -/
namespace Go.Proofs.YtcdodfehnkgjdaaGreatDoor
open Go.RowKit

/-- A reader in block R, over a text in T, which stands where A says; it has failed or not. -/
def RdAt (A T R : Nat) (s : ByteArray) (st : Nat × Bool) (w : World) : Prop :=
  Boxed w A 3 (.int .i64 st.1) ∧ Boxed w T 9 (.string s) ∧ w.heap[R]? = some (.cells #[.func (.func 61) #[] #[.pointer (some ⟨A, 0, none⟩), .pointer (some ⟨T, 0, none⟩)], .bool st.2] 110 (0, 0))
section
variable {A T R : Nat} {s : ByteArray} {st : Nat × Bool} {w w' : World}
theorem RdAt.grown {bs : List Nat} (h : RdAt A T R s st w) (hg : GrownL bs w w') (hA : A ∉ bs) (hT : T ∉ bs) (hR : R ∉ bs) : RdAt A T R s st w' :=
  ⟨(hg.block A h.1.lt hA).trans h.1, (hg.block T h.2.1.lt hT).trans h.2.1, (hg.block R (Array.getElem?_eq_some_iff.1 h.2.2).1 hR).trans h.2.2⟩
theorem RdAt.ne (h : RdAt A T R s st w) : A ≠ T ∧ A ≠ R ∧ T ≠ R := by
  obtain ⟨h1, h2, h3⟩ := h
  refine ⟨fun e => ?_, fun e => ?_, fun e => ?_⟩
  · subst e; have := h1.symm.trans h2; simp at this
  · subst e; have := (show w.heap[A]? = _ from h1).symm.trans h3; simp at this
  · subst e; have := (show w.heap[T]? = _ from h2).symm.trans h3; simp at this
theorem RdAt.lt (h : RdAt A T R s st w) : A < w.heap.size ∧ T < w.heap.size ∧ R < w.heap.size := ⟨h.1.lt, h.2.1.lt, (Array.getElem?_eq_some_iff.1 h.2.2).1⟩
theorem RdAt.r0 (h : RdAt A T R s st w) : w.cell? ⟨R, 0, none⟩ = some (.func (.func 61) #[] #[.pointer (some ⟨A, 0, none⟩), .pointer (some ⟨T, 0, none⟩)]) := by simp [World.cell?, h.2.2]
theorem RdAt.r1 (h : RdAt A T R s st w) : w.cell? ⟨R, 1, none⟩ = some (.bool st.2) := by simp [World.cell?, h.2.2]
theorem RdAt.rf (h : RdAt A T R s st w) (i : Nat) : w.frozen? ⟨R, i, none⟩ = false := by simp [World.frozen?, h.2.2]
theorem RdAt.move (h : RdAt A T R s st w) (a : Nat) : RdAt A T R s (a, st.2) (w.setCell ⟨A, 0, none⟩ (.int .i64 a)) :=
  ⟨h.1.set _, boxed_set_other h.2.1 (h.ne.1.symm), (Below.heap_setCell w ⟨A, 0, none⟩ _ R h.ne.2.1.symm).trans h.2.2⟩
theorem RdAt.fail (h : RdAt A T R s st w) (b : Bool) : RdAt A T R s (st.1, b) (w.setCell ⟨R, 1, none⟩ (.bool b)) := by
  refine ⟨(Below.heap_setCell w ⟨R, 1, none⟩ _ A h.ne.2.1).trans h.1, (Below.heap_setCell w ⟨R, 1, none⟩ _ T h.ne.2.2).trans h.2.1, ?_⟩
  simp [World.setCell, Array.getElem?_modify, h.2.2]
end
def WordPost (A T R : Nat) (s : ByteArray) (st : Nat × Bool) (w : World) (e : Ending) (w' : World) : Prop :=
  (∃ v, e = .returned v) ∧ RdAt A T R s st w' ∧ GrownL [A, R] w w'

set_option maxHeartbeats 4000000 in
set_option maxRecDepth 1000000 in
theorem readWord_any (A T R : Nat) (s wd : ByteArray) (st : Nat × Bool) (w : World) (h : RdAt A T R s st w) (hat : st.1 ≤ s.size) (hsx : s.size ≤ 1000000) (hmx : wd.size ≤ 1000000) :
    Calls Tryz.prog 79 #[.pointer (some ⟨R, 0, none⟩), .string wd] w (WordPost A T R s (wordF s.data.toList wd.data.toList st) w) := by
  obtain ⟨l1, l2, l3⟩ := h.lt
  obtain ⟨n1, n2, n3⟩ := h.ne
  have HH := Lib.hid h
  have hwl : wd.data.toList.length = wd.size := rfl
  have HWL := Lib.hid hwl
  clear h hwl
  go_enter Tryz.func79, Tryz.ntmps79
  go_wp2_with fail
  have g0 : GrownL [A, R] w ((w.alloc (.cells #[.string wd] 9)).alloc (.cells #[.int .i64 0] 3)) := GrownL.of_below (((Below.refl _ _).alloc (Nat.le_refl _) _).alloc (by simp) _)
  have r0 := HH.out.grown (bs := []) (GrownL.of_below (((Below.refl w.heap.size w).alloc (Nat.le_refl _) (.cells #[.string wd] 9)).alloc (by simp) (.cells #[.int .i64 0] 3))) (by simp) (by simp) (by simp)
  have b0 := (Boxed.new w 9 (.string wd)).alloc (.cells #[.int .i64 0] 3)
  have b1 := Boxed.new (w.alloc (.cells #[.string wd] 9)) 3 (.int .i64 0)
  rw [World.size_alloc] at b1
  have S0 := Lib.hid (And.intro g0 (And.intro r0 (And.intro b0 b1)))
  clear g0 r0 b0 b1
  go_loopg [4] wd.size (fun g u wr => ∃ i bi : Nat, u = .pointer (some ⟨bi, 0, none⟩) ∧ i + g = wd.size ∧ Boxed wr bi 3 (.int .i64 i) ∧ w.heap.size < bi ∧ Boxed wr w.heap.size 9 (.string wd) ∧ RdAt A T R s (wordF s.data.toList (wd.data.toList.take i) st) wr ∧ GrownL [A, R] w wr)
  case atStart => exact ⟨0, w.heap.size + 1, rfl, by omega, S0.out.2.2.2, by omega, S0.out.2.2.1, S0.out.2.1, S0.out.1⟩
  case round =>
    obtain ⟨i, bi, rfl, hig, hbi, hbl, hbw, hrd, hgr⟩ := hrel
    have HIG := Lib.hid hig
    have HBI := Lib.hid hbi
    have HBW := Lib.hid hbw
    have HRD := Lib.hid hrd
    have HG := Lib.hid hgr
    have c1 := hbi.cell
    have c2 := hbw.cell
    have r0 := hrd.r0
    have r1 := hrd.r1
    have rf := hrd.rf 1
    clear hbi hbw hrd hgr
    by_cases hi : i < wd.size
    · have hi' : (i : Int) < (wd.size : Int) := by omega
      have HT : Hid (wordF s.data.toList (wd.data.toList.take (i + 1)) st = stepW s.data.toList (wordF s.data.toList (wd.data.toList.take i) st) wd[i]) := Lib.hid (by
        rw [List.take_succ_eq_append_getElem (show i < wd.data.toList.length from hi), wordF_snoc]; rfl)
      have HE := Lib.hid (wordF_le s.data.toList (wd.data.toList.take i) st hat)
      have HF : Hid ((wordF s.data.toList (wd.data.toList.take i) st).2 = true → wordF s.data.toList wd.data.toList st = wordF s.data.toList (wd.data.toList.take i) st) := Lib.hid (fun hb => by
        conv => lhs; rw [← List.take_append_drop i wd.data.toList]
        have e : ∀ (l1 l2 : List UInt8), wordF s.data.toList (l1 ++ l2) st = wordF s.data.toList l2 (wordF s.data.toList l1 st) := fun l1 l2 => by simp [wordF, List.foldl_append]
        rw [e]
        generalize wordF s.data.toList (wd.data.toList.take i) st = q at *
        obtain ⟨q1, q2⟩ := q
        simp only at hb
        subst hb
        exact wordF_bad _ _ _)
      have HQ0 := HF.out
      clear HF
      generalize hq : wordF s.data.toList (wd.data.toList.take i) st = q at *
      obtain ⟨a, bad⟩ := q
      have HF := Lib.hid HQ0
      clear hq HQ0
      cases bad
      · -- the next byte is taken
        obtain ⟨e1, e2⟩ := HE.out
        simp only at e1 e2
        have TK := Lib.hid (takeW_any A T w.heap.size bi s wd a i wr hi hmx e1 hsx HRD.out.1 HRD.out.2.1 HBW.out HBI.out)
        go_wp2_with fail
        refine TK.out.mono ?_
        rintro e w4 (⟨hF, rfl, rfl⟩ | ⟨hF, rfl, rfl⟩)
        · have HFF := Lib.hid hF
          clear hF
          go_wp2_with fail
          have k1 := HRD.out.fail true
          have g1 : GrownL [A, R] w4 (w4.setCell ⟨R, 1, none⟩ (.bool true)) := GrownL.set _ _ _ (by simp)
          have g2 : ∀ bs : List Nat, GrownL bs (w4.setCell ⟨R, 1, none⟩ (.bool true)) ((w4.setCell ⟨R, 1, none⟩ (.bool true)).alloc (.cells #[.int .i64 ((i : Int) + 1)] 3)) := fun bs => GrownL.of_below ((Below.refl _ _).alloc (Nat.le_refl _) _)
          have hsz := HG.out.size
          have hblt := HBI.out.lt
          go_roundg (gk - 1)
          case measure => omega
          case rel =>
            refine ⟨i + 1, w4.heap.size, rfl, by omega, ?_, by omega, ?_, ?_, (HG.out.trans g1).trans (g2 _)⟩
            · have := Boxed.new (w4.setCell ⟨R, 1, none⟩ (.bool true)) 3 (.int .i64 ((i : Int) + 1))
              simpa [go_sem] using this
            · exact (Boxed.alloc ((Below.heap_setCell w4 ⟨R, 1, none⟩ _ w.heap.size (by show w.heap.size ≠ R; omega)).trans HBW.out) _)
            · rw [HT.out, show stepW s.data.toList (a, false) wd[i] = (a, true) by unfold stepW; rw [if_neg (by simp), if_neg HFF.out]]
              exact k1.grown (g2 []) (by simp) (by simp) (by simp)
        · have HFF := Lib.hid hF
          clear hF
          have hm := HRD.out.move (a + 1)
          have m0 : (wr.setCell ⟨A, 0, none⟩ (.int .i64 ((a : Int) + 1))).cell? ⟨R, 0, none⟩ = some (.func (.func 61) #[] #[.pointer (some ⟨A, 0, none⟩), .pointer (some ⟨T, 0, none⟩)]) := hm.r0
          have m1 : (wr.setCell ⟨A, 0, none⟩ (.int .i64 ((a : Int) + 1))).cell? ⟨R, 1, none⟩ = some (.bool false) := hm.r1
          have mf : (wr.setCell ⟨A, 0, none⟩ (.int .i64 ((a : Int) + 1))).frozen? ⟨R, 1, none⟩ = false := hm.rf 1
          have hbne : bi ≠ A := by omega
          have mb := (boxed_set_other (v' := .int .i64 ((a : Int) + 1)) HBI.out hbne).cell
          have HM := Lib.hid hm
          clear hm
          go_wp2_with fail
          have k1 := HM.out.fail false
          have g1 : GrownL [A, R] wr (((wr.setCell ⟨A, 0, none⟩ (.int .i64 ((a : Int) + 1)))).setCell ⟨R, 1, none⟩ (.bool false)) := (GrownL.set _ _ _ (by simp)).trans (GrownL.set _ _ _ (by simp))
          have g2 : ∀ bs : List Nat, GrownL bs (((wr.setCell ⟨A, 0, none⟩ (.int .i64 ((a : Int) + 1)))).setCell ⟨R, 1, none⟩ (.bool false)) ((((wr.setCell ⟨A, 0, none⟩ (.int .i64 ((a : Int) + 1)))).setCell ⟨R, 1, none⟩ (.bool false)).alloc (.cells #[.int .i64 ((i : Int) + 1)] 3)) := fun bs => GrownL.of_below ((Below.refl _ _).alloc (Nat.le_refl _) _)
          have hsz := HG.out.size
          have hblt := HBI.out.lt
          go_roundg (gk - 1)
          case measure => omega
          case rel =>
            refine ⟨i + 1, wr.heap.size, rfl, by omega, ?_, by omega, ?_, ?_, (HG.out.trans g1).trans (g2 _)⟩
            · have := Boxed.new (((wr.setCell ⟨A, 0, none⟩ (.int .i64 ((a : Int) + 1)))).setCell ⟨R, 1, none⟩ (.bool false)) 3 (.int .i64 ((i : Int) + 1))
              simpa [go_sem] using this
            · exact (Boxed.alloc ((Below.heap_setCell _ ⟨R, 1, none⟩ _ w.heap.size (by show w.heap.size ≠ R; omega)).trans (boxed_set_other HBW.out (by omega))) _)
            · rw [HT.out, show stepW s.data.toList (a, false) wd[i] = (a + 1, false) by unfold stepW; rw [if_neg (by simp), if_pos HFF.out]]
              exact k1.grown (g2 []) (by simp) (by simp) (by simp)
      · -- it has failed
        go_wp2_with fail
        go_end0
        have hf := HF.out trivial
        exact ⟨⟨_, rfl⟩, by rw [hf]; exact HRD.out, HG.out⟩
    · obtain rfl : i = wd.size := by omega
      have HE : Hid (wd.data.toList.take wd.size = wd.data.toList) := Lib.hid (List.take_of_length_le (by rw [HWL.out]; exact Nat.le_refl _))
      go_wp2_with fail
      go_end0
      exact ⟨⟨_, rfl⟩, by have := HRD.out; rwa [HE.out] at this, HG.out⟩
end Go.Proofs.YtcdodfehnkgjdaaGreatDoor

/- Contract of reader.number. -/
namespace Go.Proofs.YtcdodfehnkgjdaaGreatDoor
open Go.RowKit

def NumPost (A T R : Nat) (s : ByteArray) (r : Int × Nat × Bool) (w : World) (e : Ending) (w' : World) : Prop :=
  e = .returned (.int .i64 r.1) ∧ RdAt A T R s r.2 w' ∧ GrownL [A, R] w w'

set_option maxHeartbeats 4000000 in
set_option maxRecDepth 1000000 in
theorem readNumber_any (A T R : Nat) (s : ByteArray) (lo hi : Int) (st : Nat × Bool) (w : World) (h : RdAt A T R s st w) (hat : st.1 ≤ s.size) (hsx : s.size ≤ 1000000) (_h0 : 0 ≤ lo) (h2 : lo ≤ 1048577) (h3 : hi ≤ 1048576) :
    Calls Tryz.prog 80 #[.pointer (some ⟨R, 0, none⟩), .int .i64 lo, .int .i64 hi] w (NumPost A T R s (numF s.data.toList lo hi st) w) := by
  obtain ⟨l1, l2, l3⟩ := h.lt
  obtain ⟨n1, n2, n3⟩ := h.ne
  have HH := Lib.hid h
  have r1 := h.r1
  obtain ⟨a0, bad⟩ := st
  simp only at hat r1
  clear h
  cases bad
  · have hs : s.data.toList.length = s.size := rfl
    have HSL := Lib.hid hs
    have q1 : ((w.alloc (.cells #[.int .i64 lo] 3)).alloc (.cells #[.int .i64 hi] 3)).cell? ⟨R, 1, none⟩ = some (.bool false) := (World.cell?_alloc_lt _ _ _ (by show R < _; simp; omega)).trans ((World.cell?_alloc_lt _ _ _ l3).trans r1)
    clear hs
    go_enter Tryz.func80, Tryz.ntmps80
    go_wp2_with fail
    obtain ⟨W0, hW0⟩ : ∃ W0, (((w.alloc (.cells #[.int .i64 lo] 3)).alloc (.cells #[.int .i64 hi] 3)).alloc (.cells #[.int .i64 0] 3)).alloc (.cells #[.int .i64 0] 3) = W0 := ⟨_, rfl⟩
    have hz : W0.heap.size = w.heap.size + 4 := by rw [← hW0]; simp
    have hbw : Below w.heap.size w W0 := by
      rw [← hW0]
      exact ((((Below.refl w.heap.size w).alloc (Nat.le_refl _) _).alloc (by simp) _).alloc (by simp; omega) _).alloc (by simp; omega) _
    have b1 : Boxed W0 w.heap.size 3 (.int .i64 lo) := by rw [← hW0]; exact (((Boxed.new w _ _).alloc _).alloc _).alloc _
    have b2 : Boxed W0 (w.heap.size + 1) 3 (.int .i64 hi) := by
      rw [← hW0]
      have := ((Boxed.new (w.alloc (.cells #[.int .i64 lo] 3)) 3 (.int .i64 hi)).alloc (.cells #[.int .i64 0] 3)).alloc (.cells #[.int .i64 0] 3)
      rwa [World.size_alloc] at this
    have b3 : Boxed W0 (w.heap.size + 2) 3 (.int .i64 0) := by
      rw [← hW0]
      have := (Boxed.new ((w.alloc (.cells #[.int .i64 lo] 3)).alloc (.cells #[.int .i64 hi] 3)) 3 (.int .i64 0)).alloc (.cells #[.int .i64 0] 3)
      simpa using this
    have b4 : Boxed W0 (w.heap.size + 3) 3 (.int .i64 0) := by
      rw [← hW0]
      have := Boxed.new (((w.alloc (.cells #[.int .i64 lo] 3)).alloc (.cells #[.int .i64 hi] 3)).alloc (.cells #[.int .i64 0] 3)) 3 (.int .i64 0)
      simpa using this
    have hr := HH.out.grown (bs := []) (GrownL.of_below hbw) (by simp) (by simp) (by simp)
    rw [hW0]
    have S0 := Lib.hid (And.intro hbw (And.intro b1 (And.intro b2 (And.intro b3 (And.intro b4 hr)))))
    clear hW0 hbw b1 b2 b3 b4 hr q1 r1
    go_loopg [] s.size (fun g wr => ∃ (n : Int) (dg a : Nat), Boxed wr (w.heap.size + 3) 3 (.int .i64 dg) ∧ Boxed wr (w.heap.size + 2) 3 (.int .i64 n) ∧ Boxed wr w.heap.size 3 (.int .i64 lo) ∧ Boxed wr (w.heap.size + 1) 3 (.int .i64 hi) ∧
      RdAt A T R s (a, false) wr ∧ GrownL [A, R] w wr ∧ digF s.data.toList lo hi n dg a = digF s.data.toList lo hi 0 0 a0 ∧ 0 ≤ n ∧ n ≤ 1048576 ∧ dg ≤ a ∧ a ≤ s.size ∧ g + a = s.size + a0 ∧ w.heap.size + 4 ≤ wr.heap.size)
    case atStart =>
      obtain ⟨hbw, b1, b2, b3, b4, hr⟩ := S0.out
      exact ⟨0, 0, a0, b4, b3, b1, b2, hr, GrownL.of_below hbw, rfl, by omega, by omega, by omega, hat, by omega, by omega⟩
    case round =>
      obtain ⟨n, dg, a, hd, hn, hl, hh, hrd, hgr, hF, m0, m1, m2, m3, hga, hszr⟩ := hrel
      have TD := Lib.hid (takeD_any A T (w.heap.size + 3) (w.heap.size + 2) w.heap.size (w.heap.size + 1) s lo hi n dg a wr m0 m1 h2 h3 (by omega) m3 hsx hrd.1 hrd.2.1 hd hn hl hh (by omega) (by omega) (by omega))
      have HB := Lib.hid (And.intro hd (And.intro hn (And.intro hl hh)))
      have HR := Lib.hid hrd
      have HG := Lib.hid hgr
      have HF := Lib.hid hF
      have HGA := Lib.hid hga
      have r0 := hrd.r0
      have r1 := hrd.r1
      have rf := hrd.rf 1
      have cd := hd.cell
      have cn := hn.cell
      have cl := hl.cell
      clear hd hn hl hh hrd hgr hF hga
      have hA2 : A ≠ w.heap.size + 2 := by omega
      have hA3 : A ≠ w.heap.size + 3 := by omega
      have HEnd : Hid ((s.size ≤ a ∨ ∃ c, s.data.toList[a]? = some c ∧ digB lo hi n dg c = false) → numF s.data.toList lo hi (a0, false) = (n, a, decide (dg = 0) || decide (n < lo))) := Lib.hid (fun he => by
        have e1 : digF s.data.toList lo hi n dg a = (n, dg, a) := by
          rcases he with h | ⟨c, h1, h2⟩
          · exact digF_end (by rw [HSL.out]; exact h)
          · exact digF_no h1 h2
        have e2 := HF.out
        rw [e1] at e2
        unfold numF
        rw [if_neg (by simp)]
        simp only
        rw [← e2])
      go_wp2_with fail
      refine TD.out.mono ?_
      rintro e w4 (⟨hend, rfl, rfl⟩ | ⟨c, hc, hdb, rfl, rfl⟩)
      · have HE := Lib.hid (HEnd.out hend)
        clear hend
        by_cases hdg : dg = 0
        · have hb : ((dg : Int) == 0) = true := by simp; omega
          have HV : Hid ((decide (dg = 0) || decide (n < lo)) = true) := Lib.hid (by simp [hdg])
          clear hdg
          go_wp2_with fail
          go_ret
          refine ⟨by rw [HE.out]; rfl, ?_, HG.out.trans (GrownL.set _ _ _ (by simp))⟩
          rw [HE.out]
          have := HR.out.fail true
          rw [HV.out]
          exact this
        · have hb : ((dg : Int) == 0) = false := by simp; omega
          by_cases hnl : n < lo
          · have HV : Hid ((decide (dg = 0) || decide (n < lo)) = true) := Lib.hid (by simp [hnl])
            clear hdg
            go_wp2_with fail
            go_ret
            refine ⟨by rw [HE.out]; rfl, ?_, HG.out.trans (GrownL.set _ _ _ (by simp))⟩
            rw [HE.out, HV.out]
            exact HR.out.fail true
          · have HV : Hid ((decide (dg = 0) || decide (n < lo)) = false) := Lib.hid (by simp [hdg]; omega)
            have hnl' : decide (n < lo) = false := by simp; omega
            clear hdg
            go_wp2_with fail
            go_ret
            refine ⟨by rw [HE.out]; rfl, ?_, HG.out.trans (GrownL.set _ _ _ (by simp))⟩
            rw [HE.out, HV.out]
            exact HR.out.fail false
      · have HC := Lib.hid (And.intro hc hdb)
        clear hc hdb
        go_wp2_with fail
        have hcl := (List.getElem?_eq_some_iff.1 HC.out.1).1
        rw [HSL.out] at hcl
        obtain ⟨d1, d2⟩ := digB_le HC.out.2
        obtain ⟨b1, b2, b3, b4⟩ := HB.out
        have hd3 : (w.heap.size + 2) ≠ w.heap.size + 3 := by omega
        have G2 : GrownL [w.heap.size + 2, w.heap.size + 3] wr ((wr.setCell ⟨w.heap.size + 2, 0, none⟩ (.int .i64 (n * 10 + ((c.toNat : Int) - 48)))).setCell ⟨w.heap.size + 3, 0, none⟩ (.int .i64 ((dg : Int) + 1))) := (GrownL.set _ _ _ (by simp)).trans (GrownL.set _ _ _ (by simp))
        have hm := (HR.out.grown G2 (by simp; omega) (by simp; omega) (by simp; omega)).move (a + 1)
        have hgrow : GrownL [A, R] w ((((wr.setCell ⟨w.heap.size + 2, 0, none⟩ (.int .i64 (n * 10 + ((c.toNat : Int) - 48)))).setCell ⟨w.heap.size + 3, 0, none⟩ (.int .i64 ((dg : Int) + 1)))).setCell ⟨A, 0, none⟩ (.int .i64 ((a : Int) + 1))) := by
          have g3 := (G2.mono (bs' := [w.heap.size + 2, w.heap.size + 3, A]) (fun b hb => by simp at hb ⊢; omega)).trans (GrownL.set (bs := [w.heap.size + 2, w.heap.size + 3, A]) _ ⟨A, 0, none⟩ (.int .i64 ((a : Int) + 1)) (by simp))
          have g0 := HG.out
          exact ⟨g3.os.trans g0.os, g3.tape.trans g0.tape, g3.output.trans g0.output, Nat.le_trans g0.size g3.size, fun k hk hn => (g3.block k (Nat.lt_of_lt_of_le hk g0.size) (by simp at hn ⊢; omega)).trans (g0.block k hk hn)⟩
        go_roundg (gk - 1)
        case measure => have := HGA.out; omega
        case rel =>
          refine ⟨n * 10 + ((c.toNat : Int) - 48), dg + 1, a + 1, ?_, ?_, ?_, ?_, hm, hgrow, ?_, by omega, by omega, by omega, by omega, by have := HGA.out; omega, by simpa [go_sem] using hszr⟩
          · exact boxed_set_other ((boxed_set_other b1 (by omega)).set _) (by omega)
          · exact boxed_set_other (boxed_set_other (b2.set _) (by omega)) (by omega)
          · exact boxed_set_other (boxed_set_other (boxed_set_other b3 (by omega)) (by omega)) (by omega)
          · exact boxed_set_other (boxed_set_other (boxed_set_other b4 (by omega)) (by omega)) (by omega)
          · rw [← HF.out, digF_go HC.out.1 HC.out.2]
  · go_enter Tryz.func80, Tryz.ntmps80
    have q1 : ((w.alloc (.cells #[.int .i64 lo] 3)).alloc (.cells #[.int .i64 hi] 3)).cell? ⟨R, 1, none⟩ = some (.bool true) := (World.cell?_alloc_lt _ _ _ (by show R < _; simp; omega)).trans ((World.cell?_alloc_lt _ _ _ l3).trans r1)
    go_wp2_with fail
    go_ret
    have g : ∀ bs : List Nat, GrownL bs w ((w.alloc (.cells #[.int .i64 lo] 3)).alloc (.cells #[.int .i64 hi] 3)) := fun bs => GrownL.of_below (((Below.refl w.heap.size w).alloc (Nat.le_refl _) _).alloc (by simp) _)
    exact ⟨rfl, HH.out.grown (g []) (by simp) (by simp) (by simp), g _⟩
end Go.Proofs.YtcdodfehnkgjdaaGreatDoor
