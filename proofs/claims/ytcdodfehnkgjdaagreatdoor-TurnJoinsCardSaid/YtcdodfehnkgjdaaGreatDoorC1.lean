/- Contracts of isMinute, isSpan, Check: sets are read from memory. -/
import Derived.Test.YtcdodfehnkgjdaaGreatDoorA4
import Derived.Test.YtcdodfehnkgjdaaGreatDoorMM
namespace Go.Proofs.YtcdodfehnkgjdaaGreatDoor
open Go.RowKit

abbrev T3 := Int × Int × Int
abbrev S2 := Int × Int

/-- A slice of turns that reads as a list, below block B. -/
def RT (B : Nat) (v : Value) (ts : List T3) (w : World) : Prop :=
  ∃ A c, v = .slice A ts.length c ∧ ts.length ≤ 1000000000000 ∧ (0 < ts.length → ∃ b o, A = some ⟨b, o, none⟩ ∧ b < B ∧ ∀ k p f l, ts[k]? = some (p, f, l) →
    w.cell? ⟨b, o + k * 3, none⟩ = some (.int .i64 p) ∧ w.cell? ⟨b, o + k * 3 + 1, none⟩ = some (.int .i64 f) ∧ w.cell? ⟨b, o + k * 3 + 2, none⟩ = some (.int .i64 l))
/-- A slice of spans that reads as a list, below block B. -/
def RS (B : Nat) (v : Value) (ss : List S2) (w : World) : Prop :=
  ∃ A c, v = .slice A ss.length c ∧ ss.length ≤ 1000000000000 ∧ (0 < ss.length → ∃ b o, A = some ⟨b, o, none⟩ ∧ b < B ∧ ∀ k lo hi, ss[k]? = some (lo, hi) →
    w.cell? ⟨b, o + k * 2, none⟩ = some (.int .i64 lo) ∧ w.cell? ⟨b, o + k * 2 + 1, none⟩ = some (.int .i64 hi))

section
variable {w w' : World} {B : Nat} {v : Value}
theorem RT.below {ts : List T3} (h : RT B v ts w) (hb : Below B w w') : RT B v ts w' := by
  obtain ⟨A, c, h1, h2, h3⟩ := h
  refine ⟨A, c, h1, h2, fun hp => ?_⟩
  obtain ⟨b, o, e, hlt, hc⟩ := h3 hp
  refine ⟨b, o, e, hlt, fun k p f l hk => ?_⟩
  obtain ⟨a1, a2, a3⟩ := hc k p f l hk
  exact ⟨(hb.cell (p := ⟨b, _, none⟩) hlt).trans a1, (hb.cell (p := ⟨b, _, none⟩) hlt).trans a2, (hb.cell (p := ⟨b, _, none⟩) hlt).trans a3⟩
theorem RS.below {ss : List S2} (h : RS B v ss w) (hb : Below B w w') : RS B v ss w' := by
  obtain ⟨A, c, h1, h2, h3⟩ := h
  refine ⟨A, c, h1, h2, fun hp => ?_⟩
  obtain ⟨b, o, e, hlt, hc⟩ := h3 hp
  refine ⟨b, o, e, hlt, fun k lo hi hk => ?_⟩
  obtain ⟨a1, a2⟩ := hc k lo hi hk
  exact ⟨(hb.cell (p := ⟨b, _, none⟩) hlt).trans a1, (hb.cell (p := ⟨b, _, none⟩) hlt).trans a2⟩
end


set_option maxHeartbeats 400000 in
theorem isMinute_yes (n : Int) (w : World) (h : MOk n) :
    Calls Tryz.prog 71 #[.int .i64 n] w fun e w' => e = .returned (.bool true) ∧ w = w' := by
  obtain ⟨h1, h2⟩ := h
  go_enter Tryz.func71, Tryz.ntmps71
  go_wp2
  go_ret
  exact ⟨rfl, rfl⟩
set_option maxHeartbeats 400000 in
theorem isMinute_no (n : Int) (w : World) (h : ¬ MOk n) :
    Calls Tryz.prog 71 #[.int .i64 n] w fun e w' => e = .returned (.bool false) ∧ w = w' := by
  have h' : n < 0 ∨ (0 ≤ n ∧ 1048576 < n) := by unfold MOk at h; omega
  rcases h' with h1 | ⟨h1, h2⟩ <;> clear h
  · go_enter Tryz.func71, Tryz.ntmps71
    go_wp2
    go_ret
    exact ⟨rfl, rfl⟩
  · go_enter Tryz.func71, Tryz.ntmps71
    go_wp2
    go_ret
    exact ⟨by show Ending.returned (Value.bool (decide (n ≤ 1048576))) = _; rw [decide_eq_false (by omega)], rfl⟩

set_option maxHeartbeats 1000000 in
theorem isSpan_yes (lo hi : Int) (w : World) (h : SOk lo hi) :
    Calls Tryz.prog 40 #[sv2 lo hi] w fun e w' => e = .returned (.bool true) ∧ Below w.heap.size w w' := by
  obtain ⟨h1, h2, h3⟩ := h
  go_enter Tryz.func40, Tryz.ntmps40
  go_wp2_with fail
  refine (isMinute_yes lo _ ⟨h1, by omega⟩).mono ?_
  rintro e w' ⟨rfl, rfl⟩
  go_wp2_with fail
  refine (isMinute_yes hi _ ⟨by omega, h3⟩).mono ?_
  rintro e w' ⟨rfl, rfl⟩
  go_wp2_with fail
  go_ret
  exact ⟨rfl, (Below.refl _ _).alloc (Nat.le_refl _) _⟩

set_option maxHeartbeats 1000000 in
theorem isSpan_no (lo hi : Int) (w : World) (h : ¬ SOk lo hi) :
    Calls Tryz.prog 40 #[sv2 lo hi] w fun e w' => e = .returned (.bool false) ∧ Below w.heap.size w w' := by
  by_cases c1 : MOk lo
  · by_cases c2 : MOk hi
    · have c3 : hi < lo := by unfold SOk at h; unfold MOk at c1 c2; omega
      have C1 := Lib.hid c1
      have C2 := Lib.hid c2
      clear h c1 c2
      go_enter Tryz.func40, Tryz.ntmps40
      go_wp2_with fail
      refine (isMinute_yes lo _ C1.out).mono ?_
      rintro e w' ⟨rfl, rfl⟩
      go_wp2_with fail
      refine (isMinute_yes hi _ C2.out).mono ?_
      rintro e w' ⟨rfl, rfl⟩
      go_wp2_with fail
      go_ret
      exact ⟨by show Ending.returned (Value.bool (decide (lo ≤ hi))) = _; rw [decide_eq_false (by omega)], (Below.refl _ _).alloc (Nat.le_refl _) _⟩
    · have C1 := Lib.hid c1
      have C2 := Lib.hid c2
      clear h c1 c2
      go_enter Tryz.func40, Tryz.ntmps40
      go_wp2_with fail
      refine (isMinute_yes lo _ C1.out).mono ?_
      rintro e w' ⟨rfl, rfl⟩
      go_wp2_with fail
      refine (isMinute_no hi _ C2.out).mono ?_
      rintro e w' ⟨rfl, rfl⟩
      go_wp2_with fail
      go_ret
      exact ⟨rfl, (Below.refl _ _).alloc (Nat.le_refl _) _⟩
  · have C1 := Lib.hid c1
    clear h c1
    go_enter Tryz.func40, Tryz.ntmps40
    go_wp2_with fail
    refine (isMinute_no lo _ C1.out).mono ?_
    rintro e w' ⟨rfl, rfl⟩
    go_wp2_with fail
    go_ret
    exact ⟨rfl, (Below.refl _ _).alloc (Nat.le_refl _) _⟩

/-- All of a set is right. -/
def AllOk (ts : List T3) (ss : List S2) : Prop := (∀ t ∈ ts, TOk t.1 t.2.1 t.2.2) ∧ ∀ s ∈ ss, SOk s.1 s.2
/-- What Check returns. -/
def CheckIs (ts : List T3) (ss : List S2) (c : Int) : Prop :=
  ((24 < ts.length ∨ 40 < ss.length) ∧ c = 2) ∨ (ts.length ≤ 24 ∧ ss.length ≤ 40 ∧ AllOk ts ss ∧ c = 0) ∨ (ts.length ≤ 24 ∧ ss.length ≤ 40 ∧ ¬ AllOk ts ss ∧ c = 1)

theorem checkIs_split {ts : List T3} {ss : List S2} {c : Int} (h : CheckIs ts ss c) : ((24 < ts.length ∨ 40 < ss.length) ∧ c = 2) ∨ (ts.length ≤ 24 ∧ ss.length ≤ 40 ∧ (AllOk ts ss → c = 0) ∧ (¬ AllOk ts ss → c = 1)) := by
  rcases h with h | ⟨h1, h2, h3, h4⟩ | ⟨h1, h2, h3, h4⟩
  · exact .inl h
  · exact .inr ⟨h1, h2, fun _ => h4, fun k => absurd h3 k⟩
  · exact .inr ⟨h1, h2, fun k => absurd k h3, fun _ => h4⟩

set_option maxHeartbeats 2000000 in
theorem check_any (vt vs : Value) (ts : List T3) (ss : List S2) (c : Int) (w : World) (ht : RT w.heap.size vt ts w) (hs : RS w.heap.size vs ss w) (hc : CheckIs ts ss c) :
    Calls Tryz.prog 12 #[.agg #[vt, vs]] w fun e w' => e = .returned (.int .i64 c) ∧ Below w.heap.size w w' := by
  have Ht := Lib.hid ht
  have Hs := Lib.hid hs
  obtain ⟨A, ca, rfl, n1, hx⟩ := ht
  obtain ⟨A', ca', rfl, n2, hy0⟩ := hs
  have HX := Lib.hid hx
  have HX' := Lib.hid hy0
  clear hx hy0 Ht Hs
  rcases checkIs_split hc with ⟨h, rfl⟩ | ⟨h1, h2, hy, hn⟩
  · clear hc
    by_cases k : 24 < ts.length
    · clear h
      have k' : (24 : Int) < (ts.length : Int) := by omega
      go_enter Tryz.func12, Tryz.ntmps12
      go_wp2_with fail
      go_ret
      exact ⟨rfl, (Below.refl _ _).alloc (Nat.le_refl _) _⟩
    · have k1 : 40 < ss.length := by omega
      have k' : (40 : Int) < (ss.length : Int) := by omega
      have k'' : (ts.length : Int) ≤ 24 := by omega
      clear h
      go_enter Tryz.func12, Tryz.ntmps12
      go_wp2_with fail
      go_ret
      exact ⟨rfl, (Below.refl _ _).alloc (Nat.le_refl _) _⟩
  · have k' : (ts.length : Int) ≤ 24 := by omega
    have k'' : (ss.length : Int) ≤ 40 := by omega
    have HY := Lib.hid hy
    have HN := Lib.hid hn
    have hd1 : decide ((24 : Int) < (ts.length : Int)) = false := by simp; omega
    have hd2 : decide ((40 : Int) < (ss.length : Int)) = false := by simp; omega
    clear hc hy hn
    go_enter Tryz.func12, Tryz.ntmps12
    go_wp2_with fail
    clear hd1 hd2
    go_loopw [21] (fun v wr => ∃ k : Nat, v = .int .i64 k ∧ k ≤ ts.length ∧ (∀ j t, j < k → ts[j]? = some t → TOk t.1 t.2.1 t.2.2) ∧ wr.cell? ⟨w.heap.size, 1, none⟩ = some (.slice A' ss.length ca') ∧ w.heap.size < wr.heap.size ∧ Below w.heap.size w wr) (fun v _ => ts.length - (intOf v).toNat)
    case atStart => exact ⟨0, rfl, by omega, fun j t hj => by omega, by simp [go_sem], by simp, (Below.refl _ _).alloc (Nat.le_refl _) _⟩
    case round =>
      obtain ⟨k, rfl, hk, hj, hcell, hlt, hB⟩ := hrel
      have Hj := Lib.hid hj
      have HB := Lib.hid hB
      have hlt1 : ∀ W, Below wr.heap.size wr W → W.cell? ⟨w.heap.size, 1, none⟩ = some (.slice A' ss.length ca') := fun W hb => (hb.cell (p := ⟨w.heap.size, 1, none⟩) hlt).trans hcell
      have HL := Lib.hid hlt1
      clear hj hB hlt1
      by_cases hkl : k < ts.length
      · obtain ⟨b, o, eA, hbB, hcs⟩ := HX.out (by omega)
        subst eA
        have hk0 : (k : Int) < (ts.length : Int) := by omega
        obtain ⟨⟨p, f, l⟩, ht⟩ : ∃ t, ts[k]? = some t := ⟨_, List.getElem?_eq_getElem hkl⟩
        obtain ⟨c0, c1, c2'⟩ := hcs k p f l ht
        have d0 := (HB.out.cell (p := ⟨b, o + k * 3, none⟩) hbB).trans c0
        have d1 := (HB.out.cell (p := ⟨b, o + k * 3 + 1, none⟩) hbB).trans c1
        have d2 := (HB.out.cell (p := ⟨b, o + k * 3 + 2, none⟩) hbB).trans c2'
        have HT := Lib.hid ht
        clear c0 c1 c2' ht hcs
        by_cases hok : TOk p f l
        · have C := Lib.hid fun w => checkTurn_ok p f l w hok
          have HO := Lib.hid hok
          clear hok
          go_wp2_with fail
          refine (C.out _).mono ?_
          rintro e w4 ⟨rfl, h4⟩
          have B4 := Lib.hid (((Below.refl wr.heap.size wr).alloc (Nat.le_refl _) (.cells #[.int .i64 p, .int .i64 f, .int .i64 l] 42)).trans (h4.mono (by simp)))
          have z4 : wr.heap.size < w4.heap.size := by have := h4.size; simp at this; omega
          clear h4
          go_wp2_with fail
          go_roundw
          case rel =>
            refine ⟨k + 1, by go_num, by omega, ?_, HL.out _ B4.out, by omega, HB.out.trans (B4.out.mono (by omega))⟩
            intro j t hj ht
            by_cases e : j = k
            · subst e
              rw [HT.out] at ht
              injection ht with ht
              subst ht
              exact HO.out
            · exact Hj.out j t (by omega) ht
          case measure => show ts.length - ((k : Int) + 1).toNat < ts.length - (k : Int).toNat; omega
        · have C := Lib.hid fun w => checkTurn_bad p f l w hok
          have hc1 : c = 1 := HN.out (fun h => hok (h.1 _ (List.mem_of_getElem? HT.out)))
          subst hc1
          clear hok
          go_wp2_with fail
          refine (C.out _).mono ?_
          rintro e w4 ⟨rfl, h4⟩
          have B4 := Lib.hid (((Below.refl wr.heap.size wr).alloc (Nat.le_refl _) (.cells #[.int .i64 p, .int .i64 f, .int .i64 l] 42)).trans (h4.mono (by simp)))
          clear h4
          go_wp2_with fail
          go_ret
          exact ⟨rfl, HB.out.trans (B4.out.mono (by omega))⟩
      · have hk0 : (ts.length : Int) ≤ (k : Int) := by omega
        have hz := HB.out.size
        have HA : Hid (∀ t ∈ ts, TOk t.1 t.2.1 t.2.2) := Lib.hid (by
          intro t ht
          obtain ⟨j, hj⟩ := List.mem_iff_getElem?.1 ht
          exact Hj.out j t (by have := (List.getElem?_eq_some_iff.1 hj).1; omega) hj)
        go_wp2_with fail
        go_loopw [34] (fun v wr => ∃ k : Nat, v = .int .i64 k ∧ k ≤ ss.length ∧ (∀ j t, j < k → ss[j]? = some t → SOk t.1 t.2) ∧ w.heap.size < wr.heap.size ∧ Below w.heap.size w wr) (fun v _ => ss.length - (intOf v).toNat)
        case atStart => exact ⟨0, rfl, by omega, fun j t hj => by omega, hlt, HB.out⟩
        case round =>
          obtain ⟨k2, rfl, hk2, hj2, hlt2, hB2⟩ := hrel
          have Hj2 := Lib.hid hj2
          have HB2 := Lib.hid hB2
          clear hj2 hB2
          by_cases hkl2 : k2 < ss.length
          · obtain ⟨b2, o2, eA2, hbB2, hcs2⟩ := HX'.out (by omega)
            subst eA2
            have hk3 : (k2 : Int) < (ss.length : Int) := by omega
            obtain ⟨⟨lo, hi⟩, ht2⟩ : ∃ t, ss[k2]? = some t := ⟨_, List.getElem?_eq_getElem hkl2⟩
            obtain ⟨c0, c1⟩ := hcs2 k2 lo hi ht2
            have d0 := (HB2.out.cell (p := ⟨b2, o2 + k2 * 2, none⟩) hbB2).trans c0
            have d1 := (HB2.out.cell (p := ⟨b2, o2 + k2 * 2 + 1, none⟩) hbB2).trans c1
            have HT2 := Lib.hid ht2
            have hz2 := HB2.out.size
            clear c0 c1 ht2 hcs2
            by_cases hok : SOk lo hi
            · have C := Lib.hid fun w => isSpan_yes lo hi w hok
              have HO := Lib.hid hok
              clear hok
              go_wp2_with fail
              refine (C.out _).mono ?_
              rintro e w4 ⟨rfl, h4⟩
              have B4 := Lib.hid (((Below.refl wr.heap.size wr).alloc (Nat.le_refl _) (.cells #[.int .i64 lo, .int .i64 hi] 45)).trans (h4.mono (by simp)))
              have z4 : wr.heap.size < w4.heap.size := by have := h4.size; simp at this; omega
              clear h4
              go_wp2_with fail
              go_roundw
              case rel =>
                refine ⟨k2 + 1, by go_num, by omega, ?_, by omega, HB2.out.trans (B4.out.mono (by omega))⟩
                intro j t hj ht
                by_cases e : j = k2
                · subst e
                  rw [HT2.out] at ht
                  injection ht with ht
                  subst ht
                  exact HO.out
                · exact Hj2.out j t (by omega) ht
              case measure => show ss.length - ((k2 : Int) + 1).toNat < ss.length - (k2 : Int).toNat; omega
            · have C := Lib.hid fun w => isSpan_no lo hi w hok
              have hc1 : c = 1 := HN.out (fun h => hok (h.2 _ (List.mem_of_getElem? HT2.out)))
              subst hc1
              clear hok
              go_wp2_with fail
              refine (C.out _).mono ?_
              rintro e w4 ⟨rfl, h4⟩
              have B4 := Lib.hid (((Below.refl wr.heap.size wr).alloc (Nat.le_refl _) (.cells #[.int .i64 lo, .int .i64 hi] 45)).trans (h4.mono (by simp)))
              clear h4
              go_wp2_with fail
              go_ret
              exact ⟨rfl, HB2.out.trans (B4.out.mono (by omega))⟩
          · have hk3 : (ss.length : Int) ≤ (k2 : Int) := by omega
            have hc0 : c = 0 := HY.out ⟨HA.out, by
              intro t ht
              obtain ⟨j, hj⟩ := List.mem_iff_getElem?.1 ht
              exact Hj2.out j t (by have := (List.getElem?_eq_some_iff.1 hj).1; omega) hj⟩
            subst hc0
            go_wp2_with fail
            go_ret
            exact ⟨rfl, HB2.out⟩
end Go.Proofs.YtcdodfehnkgjdaaGreatDoor
