/- Contracts of slices.Equal over bools and of shortest. -/
import Derived.Test.YtcdodfehnkgjdaaGreatDoorA4
import Derived.Deep.QuietTactic
import Derived.BigQuiet
import Derived.IntWalk
namespace Go.Proofs.YtcdodfehnkgjdaaGreatDoor
open Go.RowKit

/-- A slice of bools that reads as a list. -/
def RB (v : Value) (l : List Bool) (w : World) : Prop :=
  ∃ A c, v = .slice A l.length c ∧ l.length ≤ 1000000000000 ∧ (0 < l.length → ∃ b o, A = some ⟨b, o, none⟩ ∧ ∀ k x, l[k]? = some x → w.cell? ⟨b, o + k, none⟩ = some (.bool x))

theorem drewN_trans {w w1 w2 : World} {a b : Nat} (h : w1 = w.drewN a) (k : w2 = w1.drewN b) : ∃ n, w2 = w.drewN n := by
  subst h k
  exact ⟨a + b, by simp [World.drewN, Nat.add_assoc]⟩

set_option maxHeartbeats 4000000 in
set_option maxRecDepth 1000000 in
theorem equalB_any (va vb : Value) (a b : List Bool) (w : World) (ha : RB va a w) (hb : RB vb b w) :
    Calls Tryz.prog 86 #[va, vb] w fun e w' => e = .returned (.bool (decide (a = b))) ∧ ∃ n, w' = w.drewN n := by
  obtain ⟨A, ca, rfl, n1, hx⟩ := ha
  obtain ⟨A', ca', rfl, n2, hy⟩ := hb
  have HX := Lib.hid hx
  have HY := Lib.hid hy
  clear hx hy
  by_cases hl : a.length = b.length
  · have hne' : ((a.length : Int) != (b.length : Int)) = false := by simp; omega
    have hne : ((a.length : Int) == (b.length : Int)) = true := by simp; omega
    have HL := Lib.hid hl
    clear hl
    go_enter Tryz.func86, Tryz.ntmps86
    go_wp2_with fail
    go_loopw [13] (fun u wr => ∃ k : Nat, u = .int .i64 k ∧ k ≤ a.length ∧ (∀ j, j < k → a[j]? = b[j]?) ∧ ∃ n, wr = w.drewN n) (fun u _ => a.length - (intOf u).toNat)
    case atStart => exact ⟨0, rfl, by omega, (fun j hj => by omega), 0, rfl⟩
    case round =>
      obtain ⟨k, rfl, hk, hs, n, rfl⟩ := hrel
      have HSm := Lib.hid hs
      clear hs
      by_cases hkn : k < a.length
      · obtain ⟨b1, o1, rfl, q1⟩ := HX.out (by omega)
        obtain ⟨b2, o2, rfl, q2⟩ := HY.out (by have := HL.out; omega)
        obtain ⟨x, hx⟩ : ∃ x, a[k]? = some x := ⟨_, List.getElem?_eq_getElem hkn⟩
        obtain ⟨y, hy⟩ : ∃ y, b[k]? = some y := ⟨_, List.getElem?_eq_getElem (by have := HL.out; omega)⟩
        have hk0 : (k : Int) < (a.length : Int) := by omega
        have hk1 : (k : Int) < (b.length : Int) := by have := HL.out; omega
        have c1 := q1 k x hx
        have c2 := q2 k y hy
        have HXk := Lib.hid hx
        have HYk := Lib.hid hy
        clear q1 q2 hx hy
        by_cases e : x = y
        · subst e
          go_wp2_with fail
          go_region
          all_goals go_wp2_with fail
          all_goals refine ⟨⟨k + 1, by go_num, by omega, ?_, n + 1, rfl⟩, ?_⟩
          all_goals first
            | (show a.length - ((k : Int) + 1).toNat < a.length - (k : Int).toNat; omega)
            | (intro j hj
               by_cases hjk : j < k
               · exact HSm.out j hjk
               · obtain rfl : j = k := by omega
                 rw [HXk.out, HYk.out])
        · have HF : Hid (decide (a = b) = false) := Lib.hid (by
            simp
            intro h
            subst h
            exact e (Option.some.inj (HXk.out.symm.trans HYk.out)))
          have hxy : (x == y) = false := by simpa using e
          have hxy' : (x != y) = true := by simpa using e
          clear e
          go_wp2_with fail
          go_region
          all_goals go_wp2_with fail
          all_goals go_ret
          all_goals exact ⟨by rw [HF.out]; rfl, n + 1, rfl⟩
      · have hk0 : (a.length : Int) ≤ (k : Int) := by omega
        have HE : Hid (decide (a = b) = true) := Lib.hid (by
          simp
          apply List.ext_getElem?
          intro i
          by_cases hi : i < k
          · exact HSm.out i hi
          · rw [List.getElem?_eq_none (by omega), List.getElem?_eq_none (by have := HL.out; omega)])
        go_wp2_with fail
        go_ret
        exact ⟨by rw [HE.out]; rfl, n, rfl⟩
  · have hne' : ((a.length : Int) != (b.length : Int)) = true := by simp; omega
    have HF : Hid (decide (a = b) = false) := Lib.hid (by simp; intro e; subst e; exact hl rfl)
    clear hl
    go_enter Tryz.func86, Tryz.ntmps86
    go_wp2_with fail
    go_ret
    exact ⟨by rw [HF.out]; rfl, 0, rfl⟩

/-- A list is made of its first p members, again and again. -/
def RepB (l : List Bool) (p : Nat) : Prop := l.length % p = 0 ∧ l.drop p = l.take (l.length - p)
theorem repB_full (l : List Bool) : RepB l l.length := ⟨Nat.mod_self _, by simp⟩
theorem rb_drop {A : Option Addr} {c : Nat} {l : List Bool} {w : World} (h : RB (.slice A l.length c) l w) {b o p : Nat} (hA : A = some ⟨b, o, none⟩) (hp : p < l.length) :
    RB (.slice (some ⟨b, o + p, none⟩) (l.length - p) (c - p)) (l.drop p) w := by
  obtain ⟨A1, c1, e, n1, hx⟩ := h
  obtain ⟨rfl, rfl⟩ : A = A1 ∧ c = c1 := by simpa using e
  subst hA
  refine ⟨_, c - p, by rw [List.length_drop], by simp; omega, fun _ => ⟨b, o + p, rfl, fun k x hk => ?_⟩⟩
  obtain ⟨b', o', e', hc⟩ := hx (by omega)
  obtain ⟨rfl, rfl⟩ : b = b' ∧ o = o' := by simpa using e'
  rw [List.getElem?_drop] at hk
  have := hc _ _ hk
  rwa [← Nat.add_assoc] at this
theorem rb_take {A : Option Addr} {c : Nat} {l : List Bool} {w : World} (h : RB (.slice A l.length c) l w) {m : Nat} (hm : m ≤ l.length) :
    RB (.slice A m c) (l.take m) w := by
  obtain ⟨A1, c1, e, n1, hx⟩ := h
  obtain ⟨rfl, rfl⟩ : A = A1 ∧ c = c1 := by simpa using e
  refine ⟨A, c, by rw [List.length_take, Nat.min_eq_left hm], by simp; omega, fun hp => ?_⟩
  rw [List.length_take, Nat.min_eq_left hm] at hp
  obtain ⟨b', o', e', hc⟩ := hx (by omega)
  refine ⟨b', o', e', fun k x hk => hc k x ?_⟩
  rw [List.getElem?_take] at hk
  split at hk
  · exact hk
  · cases hk
theorem RB.drewN {v : Value} {l : List Bool} {w : World} (h : RB v l w) (n : Nat) : RB v l (w.drewN n) := h

/-- What shortest finds. -/
def ShortPost (l : List Bool) (w : World) (e : Ending) (w' : World) : Prop :=
  ∃ p n : Nat, e = .returned (.int .i64 p) ∧ 1 ≤ p ∧ p ≤ l.length ∧ RepB l p ∧ (∀ q, 1 ≤ q → q < p → ¬ RepB l q) ∧ w' = w.drewN n

theorem rb_empty (A : Option Addr) (c : Nat) (w : World) : RB (.slice A 0 c) [] w := ⟨A, c, rfl, by simp, fun h => by simp at h⟩

set_option maxHeartbeats 4000000 in
set_option maxRecDepth 1000000 in
theorem shortest_any (b o : Nat) (l : List Bool) (w : World) (h0 : 1 ≤ l.length) (h : RB (.slice (some ⟨b, o, none⟩) l.length l.length) l w) :
    Calls Tryz.prog 76 #[.slice (some ⟨b, o, none⟩) l.length l.length] w (ShortPost l w) := by
  have HH := Lib.hid h
  obtain ⟨_, _, _, hmx, _⟩ := h
  go_enter Tryz.func76, Tryz.ntmps76
  go_wp2_with fail
  go_loopw [3] (fun u wr => ∃ p : Nat, u = .int .i64 p ∧ 1 ≤ p ∧ p ≤ l.length ∧ (∀ q, 1 ≤ q → q < p → ¬ RepB l q) ∧ ∃ n, wr = w.drewN n) (fun u _ => l.length - (intOf u).toNat)
  case atStart => exact ⟨1, rfl, by omega, by omega, (fun q h1 h2 => by omega), 0, rfl⟩
  case round =>
    obtain ⟨p, rfl, hp1, hp2, hq, n, hwr⟩ := hrel
    have HQ := Lib.hid hq
    have HWR := Lib.hid hwr
    have HH : Hid (RB (.slice (some ⟨b, o, none⟩) l.length l.length) l wr) := Lib.hid (by rw [hwr]; exact HH.out)
    have hp00 : ¬ p = 0 := by omega
    clear hq hwr
    by_cases hr : l.length % p = 0
    · have ht : (l.length : Int).tmod (p : Int) = 0 := by rw [Int.tmod_eq_emod_of_nonneg (by omega)]; omega
      have ht2 : (l.length : Int) % (p : Int) = 0 := by omega
      have hp0 : ((p : Int) == 0) = false := by simp; omega
      have HR := Lib.hid hr
      clear hr
      by_cases hpl : p = l.length
      · obtain ⟨m, hm⟩ : ∃ m, m = l.length := ⟨_, rfl⟩
        have HM := Lib.hid hm
        rw [← hpl] at HH ⊢
        have hE := fun (A A' : Option Addr) (ca ca' a : Nat) => equalB_any _ _ _ _ (wr.drewN a) (rb_empty A ca _) (rb_empty A' ca' _)
        have E := Lib.hid hE
        have hw : IntKind.i64.wrap ((p : Int) - (p : Int)) = 0 := IntWalk.i64_in _ (by omega) |>.trans (by omega)
        have HP := Lib.hid hpl
        have hp5 : p ≤ 1000000000000 := by omega
        clear hE hm hpl hmx h0 hp2 ht ht2
        have ht : (p : Int).tmod (p : Int) = 0 := by rw [Int.tmod_eq_emod_of_nonneg (by omega)]; exact Int.emod_self
        go_wp2_with fail
        go_quiet ((go_at_call 86; exact Calls.quiet_of (E.out _ _ _ _ _)))
        all_goals go_wp2_with fail
        all_goals go_ret
        all_goals
          obtain ⟨n2, hn2⟩ := drewN_trans HWR.out rfl
          exact ⟨p, n2, rfl, hp1, by rw [HP.out]; exact Nat.le_refl _, by rw [HP.out]; exact repB_full l, HQ.out, hn2⟩
      · have hp3 : p < l.length := by omega
        obtain ⟨t, HT⟩ : ∃ t, Hid (decide (l.drop p = l.take (l.length - p)) = t) := ⟨_, Lib.hid rfl⟩
        have E : Hid (∀ a : Nat, Calls Tryz.prog 86 #[.slice (some ⟨b, o + p, none⟩) (l.length - p) (l.length - p), .slice (some ⟨b, o, none⟩) (l.length - p) l.length] (wr.drewN a) fun e w' => e = .returned (.bool t) ∧ ∃ n, w' = (wr.drewN a).drewN n) := Lib.hid fun a => by
          have := equalB_any _ _ _ _ _ (rb_drop (HH.out.drewN a) rfl hp3) (rb_take (HH.out.drewN a) (show l.length - p ≤ l.length by omega))
          rw [HT.out] at this
          exact this
        have hw : IntKind.i64.wrap ((l.length : Int) - (p : Int)) = (l.length : Int) - (p : Int) := IntWalk.i64_in _ (by omega)
        have hpi : (p : Int) ≤ (l.length : Int) := by omega
        cases t
        · go_wp2_with fail
          go_quiet ((go_at_call 86; exact Calls.quiet_of (E.out _)))
          all_goals go_wp2_with fail
          all_goals go_roundw
          case rel =>
            refine ⟨p + 1, by go_num, by omega, by omega, ?_, drewN_trans HWR.out rfl⟩
            intro q h1 h2
            by_cases hqp : q < p
            · exact HQ.out q h1 hqp
            · obtain rfl : q = p := by omega
              rintro ⟨-, h3⟩
              have := HT.out
              simp [h3] at this
          case measure => show l.length - ((p : Int) + 1).toNat < l.length - (p : Int).toNat; omega
        · go_wp2_with fail
          go_quiet ((go_at_call 86; exact Calls.quiet_of (E.out _)))
          all_goals go_wp2_with fail
          all_goals go_ret
          all_goals
            obtain ⟨n2, hn2⟩ := drewN_trans HWR.out rfl
            exact ⟨p, n2, rfl, hp1, hp2, ⟨HR.out, by have := HT.out; simpa using this⟩, HQ.out, hn2⟩
    · obtain ⟨r, hrr⟩ : ∃ r, r = l.length % p := ⟨_, rfl⟩
      have ht : (l.length : Int).tmod (p : Int) = (r : Int) := by rw [Int.tmod_eq_emod_of_nonneg (by omega), hrr]; omega
      have ht2 : (l.length : Int) % (p : Int) = (r : Int) := by rw [hrr]; omega
      have hr0 : ¬ r = 0 := by rw [hrr]; exact hr
      have HR := Lib.hid hr
      have hpl : p < l.length := by
        rcases Nat.lt_or_ge p l.length with h | h
        · exact h
        · exact absurd (by rw [show p = l.length by omega]; exact Nat.mod_self _) hr
      clear hr hrr
      go_wp2_with fail
      go_quiet ((fail))
      all_goals go_wp2_with fail
      all_goals go_roundw
      case rel =>
        refine ⟨p + 1, by go_num, by omega, by omega, ?_, drewN_trans HWR.out rfl⟩
        intro q h1 h2
        by_cases hqp : q < p
        · exact HQ.out q h1 hqp
        · obtain rfl : q = p := by omega
          rintro ⟨h3, -⟩
          exact HR.out h3
      case measure => show l.length - ((p : Int) + 1).toNat < l.length - (p : Int).toNat; omega
end Go.Proofs.YtcdodfehnkgjdaaGreatDoor
