/- Contracts of the closures that say whether a byte fits, and of the one that takes the next byte. -/
import Derived.Test.YtlhgpeelenelbaaDoorH1
import Derived.RangeFuncBox
namespace Go.Proofs.YtlhgpeelenelbaaDoor
open Go.RowKit

set_option maxHeartbeats 1000000 in
theorem word1_any (c : UInt8) (s : ByteArray) (i : Nat) (bw bi : Nat) (w : World) (hi : i < s.size) (hmx : s.size ≤ 1000000) (hw : Boxed w bw 9 (.string s)) (hb : Boxed w bi 3 (.int .i64 i)) :
    Calls Tryd.prog 142 #[.int .u8 c.toNat, .pointer (some ⟨bw, 0, none⟩), .pointer (some ⟨bi, 0, none⟩)] w fun e w' => e = .returned (.bool (decide (c = s[i]))) ∧ w = w' := by
  have h1 := hw.cell
  have h2 := hb.cell
  have h3 : (i : Int) < (s.size : Int) := by omega
  have HD : Hid (((c.toNat : Int) == (s[i].toNat : Int)) = decide (c = s[i])) := Lib.hid (by
    rw [Bool.eq_iff_iff]
    simp only [beq_iff_eq, decide_eq_true_eq]
    exact ⟨fun h => UInt8.toNat_inj.1 (by omega), fun h => by rw [h]⟩)
  clear hw hb
  go_enter Tryd.func142, Tryd.ntmps142
  go_wp2_with fail
  go_ret
  exact ⟨by rw [← HD.out]; rfl, rfl⟩

theorem boxed_set_other {W : World} {B B' : Nat} {t : TypeId} {v v' : Value} (h : Boxed W B t v) (hne : B ≠ B') : Boxed (W.setCell ⟨B', 0, none⟩ v') B t v := (Below.heap_setCell W ⟨B', 0, none⟩ v' B hne).trans h

/-- What the closure of number answers, and leaves. -/
def DigPost (bd bn : Nat) (lo hi n : Int) (dg : Nat) (c : UInt8) (w : World) (e : Ending) (w' : World) : Prop :=
  (digB lo hi n dg c = false ∧ e = .returned (.bool false) ∧ w' = w) ∨
  (digB lo hi n dg c = true ∧ e = .returned (.bool true) ∧ w' = (w.setCell ⟨bn, 0, none⟩ (.int .i64 (n * 10 + ((c.toNat : Int) - 48)))).setCell ⟨bd, 0, none⟩ (.int .i64 ((dg : Int) + 1)))

set_option maxHeartbeats 2000000 in
theorem number1_any (c : UInt8) (lo hi n : Int) (dg bd bn bl bh : Nat) (w : World) (h0 : 0 ≤ n) (h1 : n ≤ 1048576) (h2 : lo ≤ 1048577) (h3 : hi ≤ 1048576) (h4 : dg ≤ 1000000)
    (hd : Boxed w bd 3 (.int .i64 dg)) (hn : Boxed w bn 3 (.int .i64 n)) (hl : Boxed w bl 3 (.int .i64 lo)) (hh : Boxed w bh 3 (.int .i64 hi)) (hne : bd ≠ bn) :
    Calls Tryd.prog 143 #[.int .u8 c.toNat, .pointer (some ⟨bd, 0, none⟩), .pointer (some ⟨bn, 0, none⟩), .pointer (some ⟨bl, 0, none⟩), .pointer (some ⟨bh, 0, none⟩)] w (DigPost bd bn lo hi n dg c w) := by
  have c1 := hd.cell
  have c2 := hn.cell
  have c3 := hl.cell
  have c4 := hh.cell
  have f1 := hd.frozen
  have f2 := hn.frozen
  have hc : c.toNat < 256 := c.toNat_lt
  have g1 : ∀ v, (w.setCell ⟨bn, 0, none⟩ v).cell? ⟨bd, 0, none⟩ = some (.int .i64 dg) := fun v => (boxed_set_other hd hne).cell
  have g2 : ∀ v, (w.setCell ⟨bn, 0, none⟩ v).frozen? ⟨bd, 0, none⟩ = false := fun v => (boxed_set_other hd hne).frozen
  clear hd hn hl hh
  by_cases a1 : c.toNat < 48
  · have HF : Hid (digB lo hi n dg c = false) := Lib.hid (by simp [digB]; omega)
    have hb : decide ((c.toNat : Int) < 48) = true := by simp; omega
    go_enter Tryd.func143, Tryd.ntmps143
    go_wp2_with fail
    go_ret
    exact .inl ⟨HF.out, rfl, rfl⟩
  have hb1 : decide ((c.toNat : Int) < 48) = false := by simp; omega
  by_cases a2 : 57 < c.toNat
  · have HF : Hid (digB lo hi n dg c = false) := Lib.hid (by simp [digB]; omega)
    have hb : decide ((57 : Int) < (c.toNat : Int)) = true := by simp; omega
    go_enter Tryd.func143, Tryd.ntmps143
    go_wp2_with fail
    go_ret
    exact .inl ⟨HF.out, rfl, rfl⟩
  have hb2 : decide ((57 : Int) < (c.toNat : Int)) = false := by simp; omega
  by_cases a3 : 0 < dg ∧ n = 0
  · obtain ⟨a4, rfl⟩ := a3
    have HF : Hid (digB lo hi 0 dg c = false) := Lib.hid (by simp [digB]; omega)
    have hb : decide ((0 : Int) < (dg : Int)) = true := by simp; omega
    go_enter Tryd.func143, Tryd.ntmps143
    go_wp2_with fail
    go_ret
    exact .inl ⟨HF.out, rfl, rfl⟩
  have HB : Hid (digB lo hi n dg c = beginsB (n * 10 + ((c.toNat : Int) - 48)) lo hi) := Lib.hid (by
    unfold digB
    rw [decide_eq_true (show 48 ≤ c.toNat by omega), decide_eq_true (show c.toNat ≤ 57 by omega)]
    have : (decide (0 < dg) && decide (n = 0)) = false := by
      rw [Bool.and_eq_false_iff]
      by_cases q : 0 < dg
      · right; simp; intro e; exact a3 ⟨q, e⟩
      · left; simp; omega
    rw [this]; simp)
  have C : Hid (∀ W, Calls Tryd.prog 144 #[.int .i64 (n * 10 + ((c.toNat : Int) - 48)), .int .i64 lo, .int .i64 hi] W fun e w' => e = .returned (.bool (digB lo hi n dg c)) ∧ W = w') := Lib.hid fun W => by
    rw [HB.out]; exact begins_any _ lo hi W (by omega) (by omega) (by omega) (by omega)
  have HDP : Hid (DigPost bd bn lo hi n dg c w = DigPost bd bn lo hi n dg c w) := Lib.hid rfl
  obtain ⟨t, ht⟩ : ∃ t, digB lo hi n dg c = t := ⟨_, rfl⟩
  rw [ht] at C
  have HT := Lib.hid ht
  have hk : (48 : Int) ≤ (c.toNat : Int) := by omega
  have hk2 : (c.toNat : Int) ≤ 57 := by omega
  by_cases q : 0 < dg
  all_goals
    cases t
    · go_enter Tryd.func143, Tryd.ntmps143
      clear ht
      go_wp2_with fail
      refine (C.out _).mono ?_
      rintro e w' ⟨rfl, rfl⟩
      go_wp2_with fail
      go_ret
      exact .inl ⟨HT.out, rfl, rfl⟩
    · go_enter Tryd.func143, Tryd.ntmps143
      clear ht
      go_wp2_with fail
      refine (C.out _).mono ?_
      rintro e w' ⟨rfl, rfl⟩
      go_wp2_with fail
      go_ret
      exact .inr ⟨HT.out, rfl, rfl⟩

/-- A byte of a string. -/
theorem byte_at {s : ByteArray} {a : Nat} (h : a < s.size) : s.data.toList[a]? = some s[a] := by
  rw [List.getElem?_eq_getElem (by simpa using h)]; rfl

/-- What taking the next byte of a word answers, and leaves. -/
def TakeW (A : Nat) (s : ByteArray) (at_ : Nat) (c : UInt8) (w : World) (e : Ending) (w' : World) : Prop :=
  (s.data.toList[at_]? ≠ some c ∧ e = .returned (.bool false) ∧ w' = w) ∨
  (s.data.toList[at_]? = some c ∧ e = .returned (.bool true) ∧ w' = w.setCell ⟨A, 0, none⟩ (.int .i64 ((at_ : Int) + 1)))

set_option maxHeartbeats 2000000 in
theorem takeW_any (A T bw bi : Nat) (s wd : ByteArray) (at_ i : Nat) (w : World) (hi : i < wd.size) (hmx : wd.size ≤ 1000000) (hat : at_ ≤ s.size) (hsx : s.size ≤ 1000000)
    (hA : Boxed w A 3 (.int .i64 at_)) (hT : Boxed w T 9 (.string s)) (hw : Boxed w bw 9 (.string wd)) (hb : Boxed w bi 3 (.int .i64 i)) :
    Calls Tryd.prog 111 #[.func (.func 142) #[] #[.pointer (some ⟨bw, 0, none⟩), .pointer (some ⟨bi, 0, none⟩)], .pointer (some ⟨A, 0, none⟩), .pointer (some ⟨T, 0, none⟩)] w (TakeW A s at_ wd[i] w) := by
  have c1 := hA.cell
  have c2 := hT.cell
  have f1 := hA.frozen
  by_cases hend : at_ = s.size
  · have HF : Hid (s.data.toList[at_]? ≠ some wd[i]) := Lib.hid (by rw [List.getElem?_eq_none (by rw [hend]; show s.data.toList.length ≤ s.data.size; simp)]; simp)
    have hb1 : ((at_ : Int) == (s.size : Int)) = true := by simp; omega
    clear hA hT hw hb
    go_enter Tryd.func111, Tryd.ntmps111
    go_wp2_with fail
    go_ret
    exact .inl ⟨HF.out, rfl, rfl⟩
  · have hlt : at_ < s.size := by omega
    have hb1 : ((at_ : Int) == (s.size : Int)) = false := by simp; omega
    have hlt' : (at_ : Int) < (s.size : Int) := by omega
    have HS := Lib.hid (byte_at hlt)
    obtain ⟨t, ht⟩ : ∃ t, decide (s[at_] = wd[i]) = t := ⟨_, rfl⟩
    have C : Hid (∀ c : UInt8, c = s[at_] → Calls Tryd.prog 142 #[.int .u8 c.toNat, .pointer (some ⟨bw, 0, none⟩), .pointer (some ⟨bi, 0, none⟩)] w fun e w' => e = .returned (.bool t) ∧ w = w') := Lib.hid (fun c hc => by
      subst hc; rw [← ht]; exact word1_any _ wd i bw bi w hi hmx hw hb)
    have HT := Lib.hid ht
    clear ht hA hT hw hb
    cases t
    · go_enter Tryd.func111, Tryd.ntmps111
      go_wp2_with fail
      refine (C.out _ rfl).mono ?_
      rintro e w' ⟨rfl, rfl⟩
      go_wp2_with fail
      go_ret
      refine .inl ⟨?_, rfl, rfl⟩
      rw [HS.out]
      have := HT.out
      simpa using this
    · go_enter Tryd.func111, Tryd.ntmps111
      go_wp2_with fail
      refine (C.out _ rfl).mono ?_
      rintro e w' ⟨rfl, rfl⟩
      go_wp2_with fail
      go_ret
      refine .inr ⟨?_, rfl, rfl⟩
      rw [HS.out]
      have := HT.out
      simpa using this

/-- What taking the next digit answers, and leaves. -/
def TakeD (A bd bn : Nat) (s : ByteArray) (lo hi n : Int) (dg at_ : Nat) (w : World) (e : Ending) (w' : World) : Prop :=
  ((s.size ≤ at_ ∨ ∃ c, s.data.toList[at_]? = some c ∧ digB lo hi n dg c = false) ∧ e = .returned (.bool false) ∧ w' = w) ∨
  (∃ c, s.data.toList[at_]? = some c ∧ digB lo hi n dg c = true ∧ e = .returned (.bool true) ∧
    w' = ((w.setCell ⟨bn, 0, none⟩ (.int .i64 (n * 10 + ((c.toNat : Int) - 48)))).setCell ⟨bd, 0, none⟩ (.int .i64 ((dg : Int) + 1))).setCell ⟨A, 0, none⟩ (.int .i64 ((at_ : Int) + 1)))

set_option maxHeartbeats 2000000 in
theorem takeD_any (A T bd bn bl bh : Nat) (s : ByteArray) (lo hi n : Int) (dg at_ : Nat) (w : World) (h0 : 0 ≤ n) (h1 : n ≤ 1048576) (h2 : lo ≤ 1048577) (h3 : hi ≤ 1048576) (h4 : dg ≤ 1000000) (hat : at_ ≤ s.size) (hsx : s.size ≤ 1000000)
    (hA : Boxed w A 3 (.int .i64 at_)) (hT : Boxed w T 9 (.string s)) (hd : Boxed w bd 3 (.int .i64 dg)) (hn : Boxed w bn 3 (.int .i64 n)) (hl : Boxed w bl 3 (.int .i64 lo)) (hh : Boxed w bh 3 (.int .i64 hi))
    (hne : bd ≠ bn) (hA1 : A ≠ bn) (hA2 : A ≠ bd) :
    Calls Tryd.prog 111 #[.func (.func 143) #[] #[.pointer (some ⟨bd, 0, none⟩), .pointer (some ⟨bn, 0, none⟩), .pointer (some ⟨bl, 0, none⟩), .pointer (some ⟨bh, 0, none⟩)], .pointer (some ⟨A, 0, none⟩), .pointer (some ⟨T, 0, none⟩)] w (TakeD A bd bn s lo hi n dg at_ w) := by
  have c1 := hA.cell
  have c2 := hT.cell
  have f1 := hA.frozen
  by_cases hend : at_ = s.size
  · have hb1 : ((at_ : Int) == (s.size : Int)) = true := by simp; omega
    clear hA hT hd hn hl hh
    go_enter Tryd.func111, Tryd.ntmps111
    go_wp2_with fail
    go_ret
    exact .inl ⟨.inl (by omega), rfl, rfl⟩
  · have hlt : at_ < s.size := by omega
    have hb1 : ((at_ : Int) == (s.size : Int)) = false := by simp; omega
    have hlt' : (at_ : Int) < (s.size : Int) := by omega
    have HS := Lib.hid (byte_at hlt)
    have C := Lib.hid (number1_any s[at_] lo hi n dg bd bn bl bh w h0 h1 h2 h3 h4 hd hn hl hh hne)
    have g1 : ∀ u v, ((w.setCell ⟨bn, 0, none⟩ u).setCell ⟨bd, 0, none⟩ v).cell? ⟨A, 0, none⟩ = some (.int .i64 at_) := fun u v => (boxed_set_other (boxed_set_other hA hA1) hA2).cell
    have g2 : ∀ u v, ((w.setCell ⟨bn, 0, none⟩ u).setCell ⟨bd, 0, none⟩ v).frozen? ⟨A, 0, none⟩ = false := fun u v => (boxed_set_other (boxed_set_other hA hA1) hA2).frozen
    clear hA hT hd hn hl hh
    go_enter Tryd.func111, Tryd.ntmps111
    go_wp2_with fail
    refine C.out.mono ?_
    rintro e w' (⟨hF, rfl, rfl⟩ | ⟨hF, rfl, rfl⟩)
    · have HF := Lib.hid hF
      clear hF
      go_wp2_with fail
      go_ret
      exact .inl ⟨.inr ⟨_, HS.out, HF.out⟩, rfl, rfl⟩
    · have HF := Lib.hid hF
      clear hF
      go_wp2_with fail
      go_ret
      exact .inr ⟨_, HS.out, HF.out, rfl, rfl⟩
end Go.Proofs.YtlhgpeelenelbaaDoor
