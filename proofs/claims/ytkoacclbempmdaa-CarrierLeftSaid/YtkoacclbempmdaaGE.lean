/- The iterator over all outlets with their places. -/
import Derived.Test.YtkoacclbempmdaaGC
import Derived.Test.YtkoacclbempmdaaGD
import Derived.Shelf.Abstract
import Derived.Shelf.RegionOpen
import Derived.OwnWalkIn
import Derived.TacticsInMore
import Derived.LoopNIn
import Derived.LoopIn
import Derived.RangeFuncBound
namespace Go.Proofs.Ytkoacclbempmdaa
open Go.RowKit
attribute [local go_sem] Oper.semAt_some

theorem places_any (A : Option Addr) (n c : Nat) (w : World) :
  Calls Try.prog 84 #[.agg #[.slice A n c]] w fun e w' => e = .returned (.func (.func 132) #[] #[.pointer (some ⟨w.heap.size, 0, none⟩)]) ∧ w' = w.alloc (.cells #[.slice A n c] 24) := by
 go_enter Try.func84, Try.ntmps84
 go_wp2_with fail
 go_ret
 exact ⟨rfl, rfl⟩
theorem enters_places1 : ∀ args w, (callFunc 132 args).run Try.prog w = .ok (.enter 132 args) w := enters_of Try.func132 (by kernel_rfl) rfl
/-- What an outlet with its place is handed on as. -/
def encP (p : Pl) : Array Value := #[.agg #[.int .i64 p.at_, .int .i64 p.c, .int .i64 p.n], ouV p.o]
/-- All of them; the first so many of them, at least one. -/
def AllPl (ws : Wk) (s : List Pl) : Prop := s = allP ws
def SomePl (ws : Wk) (s : List Pl) : Prop := ∃ i, i < total ws ∧ s = (allP ws).take (i + 1)
/-- The works that the iterator holds lie as they lay. -/
def KP (w : World) (gw : Nat) (v : Value) (W : World) : Prop := Below w.heap.size w W ∧ W.cell? ⟨gw, 0, none⟩ = some v

set_option maxHeartbeats 8000000 in
set_option maxRecDepth 1000000 in
theorem places_seq (w0 W0 : World) (gw : Nat) (A : Option Addr) (n c : Nat) (ws : Wk) (h : RK w0.heap.size (.slice A n c) ws w0) (ht : total ws ≤ 100000) (hl : ws.length ≤ 100000) :
  SeqK Try.prog 132 #[.pointer (some ⟨gw, 0, none⟩)] encP (AllPl ws) (SomePl ws) W0 [] (KP w0 gw (.slice A n c)) (fun _ => True) := by
 intro l J Jx W hW hJK h0 hJ hJx hY
 obtain ⟨A0, c0, e0, n1, hx⟩ := h
 obtain ⟨rfl, rfl, rfl⟩ : A = A0 ∧ n = ws.length ∧ c = c0 := by simpa using e0
 have HX := Lib.hid hx
 have HJ := Lib.hid hJ
 have HK := Lib.hid hJK
 have HJx := Lib.hid hJx
 have HY := Lib.hid hY
 have H0 := Lib.hid h0
 have t0 := (hJK _ _ _ h0).2
 clear hx e0 hJ hJK hJx hY h0 hW
 show Calls Try.prog 132 #[.func (.yield l) #[] #[], .pointer (some ⟨gw, 0, none⟩)] W _
 refine (callsIn_wide (n := 3)).1 ?_
 refine callsIn_of_wp Try.func132 rfl trivial ?_ rfl
 simp only [Try.ntmps132, List.size_toArray, List.length_cons, List.length_nil, Nat.reduceAdd, Nat.reduceSub, Array.replicate_succ, Array.replicate_zero, List.push_toArray, List.append_toArray, List.nil_append, List.cons_append]
 gi_wp2_with fail
 clear t0
 gi_loopw [3, 11] (fun a u wr => ∃ k : Nat, u = .int .i64 k ∧ k ≤ ws.length ∧ a = .int .i64 (pre ws k) ∧ J [] ((allP ws).take (pre ws k)) wr) (fun _ u _ => ws.length - (intOf u).toNat)
 case atStart => exact ⟨0, rfl, by omega, by rw [pre_zero]; rfl, by rw [pre_zero]; exact H0.out⟩
 case round =>
  obtain ⟨k, rfl, hk, rfl, hj⟩ := hrel
  have HJJ := Lib.hid hj
  have HB := Lib.hid (HK.out _ _ _ hj).1
  clear hj H0
  by_cases hkl : k < ws.length
  ·obtain ⟨b, o, rfl, hbB, hcs⟩ := HX.out (by omega)
   have hk0 : (k : Int) < (ws.length : Int) := by omega
   obtain ⟨os, hos⟩ : ∃ os, ws[k]? = some os := ⟨_, List.getElem?_eq_getElem hkl⟩
   obtain ⟨u, hu, hr⟩ := hcs k os hos
   obtain ⟨A1, c1, rfl, n2, hy⟩ := hr
   have HYY := Lib.hid hy
   have HOS := Lib.hid hos
   have d0 := (HB.out.cell (p := ⟨b, o + k, none⟩) hbB).trans hu
   have hp : pre ws (k + 1) ≤ total ws := pre_le ws (k + 1)
   rw [pre_succ hos] at hp
   have HP : Hid (pre ws k + os.length ≤ total ws) := Lib.hid hp
   have HJ1 := Lib.hid (HJ.out [] [] _ _ _ HJJ.out (GrownL.of_below ((Below.refl wr.heap.size wr).alloc (Nat.le_refl _) (.cells #[.slice A1 os.length c1] 38))) (Claims.refl _ _ _))
   obtain ⟨q, hq⟩ : ∃ q, pre ws k = q := ⟨_, rfl⟩
   have HQ := Lib.hid hq
   rw [hq] at HJ1 ⊢
   have hqb : q + os.length ≤ 100000 := by have := HP.out; omega
   clear hu hos hcs hy hp hq
   gi_wp2_with fail
   clear d0
   gi_loopw [3, 19] (fun a u wi => ∃ (j m : Nat), u = .int .i64 j ∧ j ≤ os.length ∧ a = .int .i64 m ∧ m = q + j ∧ J [] ((allP ws).take m) wi) (fun _ u _ => os.length - (intOf u).toNat)
   case atStart => exact ⟨0, q, rfl, by omega, rfl, rfl, HJ1.out⟩
   case round =>
    obtain ⟨j, m, rfl, hj, rfl, hm, hjj⟩ := hrel
    have HJJ := Lib.hid hjj
    have HB := Lib.hid (HK.out _ _ _ hjj).1
    clear hjj HJ1
    by_cases hjl : j < os.length
    ·obtain ⟨b1, o1, rfl, hb1, hc1⟩ := HYY.out (by omega)
     have hj0 : (j : Int) < (os.length : Int) := by omega
     obtain ⟨x, hx⟩ : ∃ x, os[j]? = some x := ⟨_, List.getElem?_eq_getElem hjl⟩
     obtain ⟨a0, a1, a2, -, a3, a4, a5, a6⟩ := hc1 j x hx
     have d0 := (HB.out.cell (p := ⟨b1, _, none⟩) hb1).trans a0
     have d1 := (HB.out.cell (p := ⟨b1, _, none⟩) hb1).trans a1
     have d2 := (HB.out.cell (p := ⟨b1, _, none⟩) hb1).trans a2
     have d3 := (HB.out.cell (p := ⟨b1, _, none⟩) hb1).trans a3
     have d4 := (HB.out.cell (p := ⟨b1, _, none⟩) hb1).trans a4
     have d5 := (HB.out.cell (p := ⟨b1, _, none⟩) hb1).trans a5
     have d6 := (HB.out.cell (p := ⟨b1, _, none⟩) hb1).trans a6
     have hat := allP_get HOS.out hx
     rw [HQ.out, ← hm] at hat
     have HS : Hid (SomePl ws ((allP ws).take m ++ [⟨m, k, j, x⟩])) := Lib.hid ⟨m, by have := (List.getElem?_eq_some_iff.1 hat).1; rwa [allP_len] at this, by rw [take_at hat]⟩
     have HT : Hid ((allP ws).take (m + 1) = (allP ws).take m ++ [⟨m, k, j, x⟩]) := Lib.hid (take_at hat)
     have HJ2 := HJ.out [] [] _ _ _ HJJ.out (GrownL.of_below ((Below.refl wr.heap.size wr).alloc (Nat.le_refl _) (.cells #[.int .i64 x.id, .int .i64 x.into, x.pv, .int .i64 x.k0, .int .i64 x.k1, .int .i64 x.s0, .int .i64 x.s1] 42))) (Claims.refl _ _ _)
     obtain ⟨fn, tmps, assign, body, hy, hR⟩ := HY.out _ _ _ _ HJ2 HS.out
     unfold encP at hy
     simp only at hy
     have hmb : m ≤ 100000 := by omega
     have HMQ := Lib.hid hm
     clear hm HJ2 hat a0 a1 a2 a3 a4 a5 a6 hc1 hx
     gi_wp2_with fail
     refine hR.mono ?_
     rintro e W3 ⟨⟨rfl, hJ3⟩ | ⟨rfl, hJx3⟩, -⟩
     ·have HJ3 := Lib.hid hJ3
      clear hJ3 hR hy
      gi_wp2_with fail
      go_roundw
      case rel => exact ⟨j + 1, m + 1, by go_num, by omega, by go_num, by have := HMQ.out; omega, by rw [HT.out]; exact HJ3.out⟩
      case measure => show os.length - ((j : Int) + 1).toNat < os.length - (j : Int).toNat; omega
     ·have HJ3 := Lib.hid hJx3
      clear hJx3 hR hy
      gi_wp2_with fail
      refine bodyPost_ret (results_none rfl _ _ _) rfl ?_
      exact ⟨⟨_, rfl⟩, .inr ⟨[], _, HS.out, HJ3.out⟩⟩
    ·have hj0 : (os.length : Int) ≤ (j : Int) := by omega
     have HM : Hid (m = pre ws (k + 1)) := Lib.hid (by rw [pre_succ HOS.out, HQ.out]; omega)
     clear hm
     gi_wp2_with fail
     go_roundw
     case rel => exact ⟨k + 1, by go_num, by omega, by rw [HM.out], by rw [← HM.out]; exact HJJ.out⟩
     case measure => show ws.length - ((k : Int) + 1).toNat < ws.length - (k : Int).toNat; omega
  ·have hk0 : (ws.length : Int) ≤ (k : Int) := by omega
   have HE : Hid ((allP ws).take (pre ws k) = allP ws) := Lib.hid (by rw [List.take_of_length_le (by rw [allP_len]; unfold total; exact pre_mono (by omega))])
   rw [HE.out] at HJJ
   gi_wp2_with fail
   go_end0
   exact ⟨⟨_, rfl⟩, .inl ⟨[], _, rfl, HJJ.out, trivial⟩⟩
end Go.Proofs.Ytkoacclbempmdaa

/- What Check returns; contract of the specification's Check. -/
namespace Go.Proofs.Ytkoacclbempmdaa
open Go.RowKit

/-- An outlet that is right where it is. -/
def okB (ws : Wk) (p : Pl) : Bool := ouB p.o && intoB p.o.into p.c ws.length
/-- One before it has its ID, or feeds the same carrier. -/
def twice (ws : Wk) (i : Nat) (p : Pl) : Prop := ∃ j q, j < i ∧ (allP ws)[j]? = some q ∧ (q.o.id = p.o.id ∨ (0 ≤ p.o.into ∧ q.o.into = p.o.into))
def BadIs (ws : Wk) (i : Nat) (p : Pl) (d : Int) : Prop := (okB ws p = false ∧ d = 1) ∨ (okB ws p = true ∧ twice ws i p ∧ d = 6) ∨ (okB ws p = true ∧ ¬ twice ws i p ∧ d = 0)
theorem BadIs.exists_ (ws : Wk) (i : Nat) (p : Pl) : ∃ d, BadIs ws i p d := by
 cases h : okB ws p
 ·exact ⟨1, .inl ⟨h, rfl⟩⟩
 ·by_cases h2 : twice ws i p
  ·exact ⟨6, .inr (.inl ⟨h, h2, rfl⟩)⟩
  ·exact ⟨0, .inr (.inr ⟨h, h2, rfl⟩)⟩
/-- The first so many outlets are right. -/
def GoodTo (ws : Wk) (i : Nat) : Prop := ∀ j q, j < i → (allP ws)[j]? = some q → BadIs ws j q 0
/-- What Check returns. -/
def CheckIs (ws : Wk) (c : Int) : Prop :=
 ((16 < ws.length ∨ 60 < total ws) ∧ c = 2) ∨ (ws.length ≤ 16 ∧ total ws ≤ 60 ∧ ((∃ i p, (allP ws)[i]? = some p ∧ GoodTo ws i ∧ BadIs ws i p c ∧ c ≠ 0) ∨ (GoodTo ws (total ws) ∧ c = 0)))
theorem GoodTo.succ {ws : Wk} {i : Nat} {p : Pl} (h : GoodTo ws i) (hp : (allP ws)[i]? = some p) (hb : BadIs ws i p 0) : GoodTo ws (i + 1) := fun j q hj hq => by
 rcases Nat.lt_or_ge j i with h' | h'
 ·exact h j q h' hq
 ·obtain rfl : j = i := by omega
  rw [hp] at hq
  cases hq
  exact hb
theorem CheckIs.exists_ (ws : Wk) : ∃ c, CheckIs ws c := by
 by_cases h : 16 < ws.length ∨ 60 < total ws
 ·exact ⟨2, .inl ⟨h, rfl⟩⟩
 ·have key : ∀ n, GoodTo ws n ∨ ∃ c i p, (allP ws)[i]? = some p ∧ GoodTo ws i ∧ BadIs ws i p c ∧ c ≠ 0 := by
   intro n
   induction n with
   | zero => exact .inl (fun j q hj => by omega)
   | succ n ih =>
    rcases ih with ih | ih
    ·cases hp : (allP ws)[n]? with
     | none =>
      left
      intro j q hj hq
      rcases Nat.lt_or_ge j n with h' | h'
      ·exact ih j q h' hq
      ·obtain rfl : j = n := by omega
       rw [hp] at hq
       cases hq
     | some p =>
      obtain ⟨d, hd⟩ := BadIs.exists_ ws n p
      by_cases h0 : d = 0
      ·subst h0
       exact .inl (ih.succ hp hd)
      ·exact .inr ⟨d, n, p, hp, ih, hd, h0⟩
    ·exact .inr ih
  rcases key (total ws) with h' | ⟨c, i, p, h1, h2, h3, h4⟩
  ·exact ⟨0, .inr ⟨by omega, by omega, .inr ⟨h', rfl⟩⟩⟩
  ·exact ⟨c, .inr ⟨by omega, by omega, .inl ⟨i, p, h1, h2, h3, h4⟩⟩⟩
theorem BadIs.unique {ws : Wk} {i : Nat} {p : Pl} {d d' : Int} (h : BadIs ws i p d) (h' : BadIs ws i p d') : d = d' := by
 rcases h with ⟨a, rfl⟩ | ⟨a, b, rfl⟩ | ⟨a, b, rfl⟩ <;> rcases h' with ⟨x, rfl⟩ | ⟨x, y, rfl⟩ | ⟨x, y, rfl⟩ <;> first | rfl | exact absurd b y | exact absurd y b | (rw [a] at x; cases x)
/-- Check's answer, where the first outlets are right and the next one is not, or none is left. -/
theorem CheckIs.first {ws : Wk} {c d : Int} {i : Nat} {p : Pl} (h : CheckIs ws c) (h1 : ws.length ≤ 16) (h2 : total ws ≤ 60) (hp : (allP ws)[i]? = some p) (hg : GoodTo ws i) (hb : BadIs ws i p d) (hd : d ≠ 0) : c = d := by
 rcases h with ⟨a, _⟩ | ⟨_, _, ⟨j, q, hq, gj, bj, hc⟩ | ⟨g, _⟩⟩
 ·omega
 ·rcases Nat.lt_trichotomy i j with h | rfl | h
  ·exact absurd ((gj i p h hp).unique hb).symm hd
  ·rw [hp] at hq
   cases hq
   exact bj.unique hb
  ·exact absurd ((hg j q h hq).unique bj).symm hc
 ·exact absurd ((g i p (by rw [← allP_len]; exact (List.getElem?_eq_some_iff.1 hp).1) hp).unique hb).symm hd
theorem CheckIs.all {ws : Wk} {c : Int} (h : CheckIs ws c) (h1 : ws.length ≤ 16) (h2 : total ws ≤ 60) (hg : GoodTo ws (total ws)) : c = 0 := by
 rcases h with ⟨a, _⟩ | ⟨_, _, ⟨j, q, hq, gj, bj, hc⟩ | ⟨_, h⟩⟩
 ·omega
 ·exact absurd ((hg j q (by rw [← allP_len]; exact (List.getElem?_eq_some_iff.1 hq).1) hq).unique bj).symm hc
 ·exact h
theorem CheckIs.many {ws : Wk} {c : Int} (h : CheckIs ws c) (h1 : 16 < ws.length ∨ 60 < total ws) : c = 2 := by
 rcases h with ⟨_, h⟩ | ⟨_, _, _⟩
 ·exact h
 ·omega
/-- Works that are right. -/
structure WOk (ws : Wk) : Prop where
 len : ws.length ≤ 16
 tot : total ws ≤ 60
 ok : ∀ p ∈ allP ws, okB ws p = true
 one : ∀ (i j : Nat) (p q : Pl), (allP ws)[i]? = some p → (allP ws)[j]? = some q → i < j → p.o.id ≠ q.o.id ∧ (0 ≤ q.o.into → p.o.into ≠ q.o.into)
theorem CheckIs.ok {ws : Wk} (h : CheckIs ws 0) : WOk ws := by
 rcases h with ⟨_, h⟩ | ⟨h1, h2, ⟨_, _, _, _, _, h⟩ | ⟨h, _⟩⟩
 ·omega
 ·exact absurd rfl h
 ·have hin : ∀ {i p}, (allP ws)[i]? = some p → i < total ws := fun hp => by rw [← allP_len]; exact (List.getElem?_eq_some_iff.1 hp).1
  refine ⟨h1, h2, fun p hp => ?_, fun i j p q hp hq hij => ?_⟩
  ·obtain ⟨i, hi⟩ := List.mem_iff_getElem?.1 hp
   rcases h i p (hin hi) hi with ⟨_, h⟩ | ⟨_, _, h⟩ | ⟨h, _, _⟩
   ·omega
   ·omega
   ·exact h
  ·rcases h j q (hin hq) hq with ⟨_, h⟩ | ⟨_, _, h⟩ | ⟨_, h, _⟩
   ·omega
   ·omega
   ·exact ⟨fun e => h ⟨i, p, hij, hp, .inl e⟩, fun h0 e => h ⟨i, p, hij, hp, .inr ⟨h0, e⟩⟩⟩
end Go.Proofs.Ytkoacclbempmdaa

/- Contract of the specification's Check. -/
namespace Go.Proofs.Ytkoacclbempmdaa
open Go.RowKit

theorem outs_get {ws : Wk} {i : Nat} {p : Pl} (h : (allP ws)[i]? = some p) : (outs ws)[i]? = some p.o ∧ (plL ws)[i]? = some ((p.c : Int), (p.n : Int)) := by
 unfold outs plL
 rw [List.getElem?_map, List.getElem?_map, h]
 exact ⟨rfl, rfl⟩
theorem outs_ps {B : Nat} {v : Value} {ws : Wk} {w : World} (h : RK B v ws w) : ∀ x ∈ outs ws, RI B x.pv x.ps w := fun x hx => by
 rw [outs_flatten] at hx
 obtain ⟨os, hos, hx⟩ := List.mem_flatten.1 hx
 obtain ⟨A, c, e, hl, hc⟩ := h
 obtain ⟨k, hk⟩ := List.mem_iff_getElem?.1 hos
 obtain ⟨b, o, -, -, q⟩ := hc (by have := (List.getElem?_eq_some_iff.1 hk).1; omega)
 obtain ⟨u, -, hr⟩ := q k os hk
 exact hr.rr.2 x hx
theorem RR.cellsAt {α : Type} {enc : α → List Value} {s B b o n c : Nat} {l : List α} {w : World} (E : Enc enc s) (h : RR enc B (.slice (some ⟨b, o, none⟩) n c) l w) {k : Nat} {x : α} (hk : l[k]? = some x) {i : Nat} {u : Value} (hu : (enc x)[i]? = some u) : w.cell? ⟨b, o + k * s + i, none⟩ = some u := by
 obtain ⟨b', o', c', e, -, hc⟩ := h.at_ E hk
 simp only [Value.slice.injEq, Option.some.injEq, Addr.mk.injEq] at e
 obtain ⟨⟨rfl, rfl, -⟩, -, -⟩ := e
 exact hc i u hu
/-- The works, and the two lists of their outlets. -/
def CkS (w : World) (v vo vp : Value) (ws : Wk) (W : World) : Prop := Wd w v W ∧ RR encO W.heap.size vo (outs ws) W ∧ RR enc2 W.heap.size vp (plL ws) W
theorem CkS.below {w W W' : World} {v vo vp : Value} {ws : Wk} (h : CkS w v vo vp ws W) (hb : Below W.heap.size W W') : CkS w v vo vp ws W' :=
 ⟨h.1.below hb, h.2.1.up hb.size hb, h.2.2.up hb.size hb⟩
theorem CkS.cells {w W : World} {v : Value} {ws : Wk} {bo oo no co bp op np cp i : Nat} {p : Pl} (h : CkS w v (.slice (some ⟨bo, oo, none⟩) no co) (.slice (some ⟨bp, op, none⟩) np cp) ws W) (hp : (allP ws)[i]? = some p) :
  W.cell? ⟨w.heap.size, 0, none⟩ = some v ∧ W.cell? ⟨bp, op + i * 2, none⟩ = some (.int .i64 p.c) ∧ W.cell? ⟨bo, oo + i * 7, none⟩ = some (.int .i64 p.o.id) ∧ W.cell? ⟨bo, oo + i * 7 + 1, none⟩ = some (.int .i64 p.o.into) ∧ W.cell? ⟨bo, oo + i * 7 + 2, none⟩ = some p.o.pv ∧
  W.cell? ⟨bo, oo + i * 7 + 3, none⟩ = some (.int .i64 p.o.k0) ∧ W.cell? ⟨bo, oo + i * 7 + 4, none⟩ = some (.int .i64 p.o.k1) ∧ W.cell? ⟨bo, oo + i * 7 + 5, none⟩ = some (.int .i64 p.o.s0) ∧ W.cell? ⟨bo, oo + i * 7 + 6, none⟩ = some (.int .i64 p.o.s1) := by
 obtain ⟨h1, h2⟩ := outs_get hp
 exact ⟨h.1.c, h.2.2.cellsAt E2 h2 (i := 0) rfl, h.2.1.cellsAt EO h1 (i := 0) rfl, h.2.1.cellsAt EO h1 (i := 1) rfl, h.2.1.cellsAt EO h1 (i := 2) rfl, h.2.1.cellsAt EO h1 (i := 3) rfl, h.2.1.cellsAt EO h1 (i := 4) rfl, h.2.1.cellsAt EO h1 (i := 5) rfl, h.2.1.cellsAt EO h1 (i := 6) rfl⟩

set_option maxHeartbeats 16000000 in
set_option maxRecDepth 1000000 in
theorem rcheck_any (A : Option Addr) (n c : Nat) (ws : Wk) (d : Int) (w : World) (h : RK w.heap.size (.slice A n c) ws w) (ht : total ws ≤ 100000) (hc : CheckIs ws d) :
  Calls Try.prog 55 #[.agg #[.slice A n c]] w fun e w' => e = .returned (.int .i64 d) ∧ Below w.heap.size w w' := by
 have hn : n = ws.length := by obtain ⟨_, _, e, _⟩ := h; simp at e; exact e.2.1
 subst hn
 have C1 := Lib.hid fun W (S : Wd w (.slice A ws.length c) W) => routlets_any A ws.length c ws W (h.up S.siz S.bel) ht
 have C2 := Lib.hid fun W (S : Wd w (.slice A ws.length c) W) => rplaces_any A ws.length c ws W (h.up S.siz S.bel) ht
 have H := Lib.hid h
 have HC := Lib.hid hc
 have S0 := Lib.hid (Wd.new (w := w) (v := .slice A ws.length c) 24)
 have htl : (total ws : Int) ≤ 100000 := by omega
 clear h hc
 go_enter Try.func55, Try.ntmps55
 go_wp2_with fail
 refine (C1.out _ S0.out).mono ?_
 rintro e w1 ⟨vo, rfl, ho, b1⟩
 have S := Lib.hid (S0.out.below b1)
 have t0 := S.out.c
 obtain ⟨Ao, co, rfl, -⟩ := ho.form
 have HO := Lib.hid (ho.rr EO (by rw [outs_len]; omega))
 clear b1 S0 ho C1
 go_wp2_with fail
 refine (C2.out _ S.out).mono ?_
 rintro e w2 ⟨vp, rfl, hp, b2⟩
 have S := Lib.hid (S.out.below b2)
 have HO := Lib.hid (HO.out.up b2.size b2)
 obtain ⟨Ap, cp, rfl, -⟩ := hp.form
 have HP := Lib.hid (hp.rr E2 (by rw [plL_len]; omega))
 clear b2 t0 hp C2
 have t0 := S.out.c
 rw [outs_len] at HO ⊢
 rw [plL_len] at HP ⊢
 by_cases hbig : 16 < ws.length ∨ 60 < total ws
 ·have hd : d = 2 := HC.out.many hbig
  have hs : (16 : Int) < (ws.length : Int) ∨ ((ws.length : Int) ≤ 16 ∧ (60 : Int) < (total ws : Int)) := by omega
  subst hd
  clear hbig
  rcases hs with a1 | ⟨a1, a2⟩
  all_goals
   go_wp2_with fail
   go_ret
   exact ⟨rfl, S.out.bel⟩
 ·have a1 : (ws.length : Int) ≤ 16 := by omega
  have a2 : (total ws : Int) ≤ 60 := by omega
  have HN := Lib.hid (show ws.length ≤ 16 ∧ total ws ≤ 60 by omega)
  have HS0 : Hid (CkS w (.slice A ws.length c) (.slice Ao (total ws) co) (.slice Ap (total ws) cp) ws w2) := Lib.hid ⟨S.out, HO.out, HP.out⟩
  have HG0 : Hid (GoodTo ws 0) := Lib.hid fun j q hj => by omega
  clear hbig
  go_wp2_with fail
  clear t0 S HO HP
  go_loopw [5] (fun u wr => ∃ i : Nat, u = .int .i64 i ∧ i ≤ total ws ∧ GoodTo ws i ∧ CkS w (.slice A ws.length c) (.slice Ao (total ws) co) (.slice Ap (total ws) cp) ws wr) (fun u _ => total ws - (intOf u).toNat)
  case atStart => exact ⟨0, rfl, by omega, HG0.out, HS0.out⟩
  case round =>
   obtain ⟨i, rfl, hi, hg, hS⟩ := hrel
   have HG := Lib.hid hg
   have S := Lib.hid hS
   have t0 := hS.1.c
   clear hg hS HS0
   by_cases hil : i < total ws
   ·have hi0 : (i : Int) < (total ws : Int) := by omega
    obtain ⟨p, hp⟩ : ∃ p, (allP ws)[i]? = some p := ⟨_, List.getElem?_eq_getElem (by rw [allP_len]; exact hil)⟩
    obtain ⟨bo, oo, c1, e1, lo, -⟩ := S.out.2.1.at_ EO (outs_get hp).1
    obtain ⟨bp, op, c2, e2, lp, -⟩ := S.out.2.2.at_ E2 (outs_get hp).2
    simp only [Value.slice.injEq] at e1 e2
    obtain ⟨rfl, -, -⟩ := e1
    obtain ⟨rfl, -, -⟩ := e2
    have HP2 := Lib.hid hp
    have C3 := Lib.hid fun W (S : CkS w (.slice A ws.length c) (.slice (some ⟨bo, oo, none⟩) (total ws) co) (.slice (some ⟨bp, op, none⟩) (total ws) cp) ws W) => rright_any A ws.length c p.c p.o W (outs_ps (H.out.up S.1.siz S.1.bel) p.o (List.mem_of_getElem? (outs_get hp).1))
    obtain ⟨r, hr⟩ : ∃ r, (ouB p.o && intoB p.o.into p.c ws.length) = r := ⟨_, rfl⟩
    have HR : Hid (okB ws p = r) := Lib.hid hr
    rw [hr] at C3
    clear hr hp lo lp
    go_wp2_with fail
    refine wp_region_held_drew (S := CkS w (.slice A ws.length c) (.slice (some ⟨bo, oo, none⟩) (total ws) co) (.slice (some ⟨bp, op, none⟩) (total ws) cp) ws) (by kernel_rfl) (S.out.below (Below.refl _ _).drew) (fun J0 => ?_)
    refine tw 0 27 J0 ?_ (hy := by intro w' hSw; obtain ⟨q0, q1, q2, q3, q4, q5, q6, q7, q8⟩ := hSw.cells HP2.out; go_simp; try with_reducible rfl)
    try simp only [aS]
    refine tw 1 28 J0 ?_ (hy := by intro w' hSw; obtain ⟨q0, q1, q2, q3, q4, q5, q6, q7, q8⟩ := hSw.cells HP2.out; go_simp; try with_reducible rfl)
    try simp only [aS]
    refine tw 2 29 J0 ?_ (hy := by intro w' hSw; obtain ⟨q0, q1, q2, q3, q4, q5, q6, q7, q8⟩ := hSw.cells HP2.out; go_simp; try with_reducible rfl)
    try simp only [aS]
    refine tw 3 30 J0 ?_ (hy := by intro w' hSw; obtain ⟨q0, q1, q2, q3, q4, q5, q6, q7, q8⟩ := hSw.cells HP2.out; go_simp; try with_reducible rfl)
    try simp only [aS]
    refine tw 4 31 J0 ?_ (hy := by intro w' hSw; obtain ⟨q0, q1, q2, q3, q4, q5, q6, q7, q8⟩ := hSw.cells HP2.out; go_simp; try with_reducible rfl)
    try simp only [aS]
    refine tw 5 32 J0 ?_ (hy := by intro w' hSw; obtain ⟨q0, q1, q2, q3, q4, q5, q6, q7, q8⟩ := hSw.cells HP2.out; go_simp; try with_reducible rfl)
    try simp only [aS]
    refine tw 6 33 J0 ?_ (hy := by intro w' hSw; obtain ⟨q0, q1, q2, q3, q4, q5, q6, q7, q8⟩ := hSw.cells HP2.out; go_simp; try with_reducible rfl)
    try simp only [aS]
    refine tw 7 34 J0 ?_ (hy := by intro w' hSw; obtain ⟨q0, q1, q2, q3, q4, q5, q6, q7, q8⟩ := hSw.cells HP2.out; go_simp; try with_reducible rfl)
    try simp only [aS]
    refine tw 8 35 J0 ?_ (hy := by intro w' hSw; obtain ⟨q0, q1, q2, q3, q4, q5, q6, q7, q8⟩ := hSw.cells HP2.out; go_simp; try with_reducible rfl)
    try simp only [aS]
    refine tw 9 36 J0 ?_ (hy := by intro w' hSw; obtain ⟨q0, q1, q2, q3, q4, q5, q6, q7, q8⟩ := hSw.cells HP2.out; go_simp; try with_reducible rfl)
    try simp only [aS]
    refine wpAnyH_ready (rs := [10]) (by kernel_rfl) (by simp) ?_
    refine AllReadyH.cons rfl (fun K hK => ?_) AllReadyH.nil
    go_simp
    refine (C3.out _ J0).mono ?_
    rintro e wq1 ⟨rfl, hq1⟩
    have J1 := J0.below hq1
    clear hq1
    refine hK.out _ _ J1 (fun _ => ?_)
    clear hK K
    try simp only [aS]
    refine tw 11 6 J1 ?_ (hy := by intro w' hSw; obtain ⟨q0, q1, q2, q3, q4, q5, q6, q7, q8⟩ := hSw.cells HP2.out; go_simp; try with_reducible rfl)
    try simp only [aS]
    refine wpAnyH_done (by kernel_rfl) ?_ _
    have S := Lib.hid J1
    clear J0 J1 C3
    cases r
    ·have hd : d = 1 := HC.out.first HN.out.1 HN.out.2 HP2.out HG.out (.inl ⟨HR.out, rfl⟩) (by decide)
     subst hd
     go_wp2_with fail
     go_ret
     exact ⟨rfl, S.out.1.bel⟩
    ·go_wp2_with fail
     clear t0
     go_loopw [7] (fun u wr => ∃ k : Nat, u = .int .i64 k ∧ k ≤ i ∧ (∀ j q, j < k → (allP ws)[j]? = some q → ¬ (q.o.id = p.o.id ∨ (0 ≤ p.o.into ∧ q.o.into = p.o.into))) ∧ CkS w (.slice A ws.length c) (.slice (some ⟨bo, oo, none⟩) (total ws) co) (.slice (some ⟨bp, op, none⟩) (total ws) cp) ws wr) (fun u _ => i - (intOf u).toNat)
     case atStart => exact ⟨0, rfl, by omega, fun j q hj => by omega, S.out⟩
     case round =>
      obtain ⟨k, rfl, hk, hno, hS⟩ := hrel
      have HNO := Lib.hid hno
      have S := Lib.hid hS
      clear hno hS
      by_cases hki : k < i
      ·have hk0 : (k : Int) < (i : Int) := by omega
       have hk1 : (k : Int) < (total ws : Int) := by omega
       obtain ⟨q, hq⟩ : ∃ q, (allP ws)[k]? = some q := ⟨_, List.getElem?_eq_getElem (by rw [allP_len]; omega)⟩
       have HQ := Lib.hid hq
       obtain ⟨-, -, q2, q3, -⟩ := S.out.cells HP2.out
       obtain ⟨-, -, r2, r3, -⟩ := S.out.cells hq
       obtain ⟨qid, eqid⟩ : ∃ x, q.o.id = x := ⟨_, rfl⟩
       obtain ⟨qin, eqin⟩ : ∃ x, q.o.into = x := ⟨_, rfl⟩
       obtain ⟨pid, epid⟩ : ∃ x, p.o.id = x := ⟨_, rfl⟩
       obtain ⟨pin, epin⟩ : ∃ x, p.o.into = x := ⟨_, rfl⟩
       rw [eqid] at r2
       rw [eqin] at r3
       rw [epid] at q2
       rw [epin] at q3
       have HT : Hid (qid = pid ∨ (0 ≤ pin ∧ qin = pin) → d = 6) := Lib.hid fun h => HC.out.first HN.out.1 HN.out.2 HP2.out HG.out (.inr (.inl ⟨HR.out, ⟨k, q, hki, HQ.out, by rw [eqid, epid, eqin, epin]; exact h⟩, rfl⟩)) (by decide)
       have HT2 : Hid (¬ (qid = pid ∨ (0 ≤ pin ∧ qin = pin)) → ∀ j q', j < k + 1 → (allP ws)[j]? = some q' → ¬ (q'.o.id = p.o.id ∨ (0 ≤ p.o.into ∧ q'.o.into = p.o.into))) := Lib.hid fun h j q' hj hq' => by
        rcases Nat.lt_or_ge j k with h' | h'
        ·exact HNO.out j q' h' hq'
        ·obtain rfl : j = k := by omega
         rw [HQ.out] at hq'
         cases hq'
         rw [eqid, epid, eqin, epin]
         exact h
       clear hq eqid eqin epid epin
       by_cases c1 : qid = pid
       ·have hd : d = 6 := HT.out (.inl c1)
        have c1' : (qid == pid) = true := by rw [beq_iff_eq]; exact c1
        subst hd
        clear c1 HT HT2
        go_wp2_with fail
        go_quiet (fail)
        go_wp2_with fail
        go_ret
        exact ⟨rfl, S.out.1.bel.trans (below_drewN (Below.refl _ _) _)⟩
       ·have c1' : (qid == pid) = false := by rw [beq_eq_false_iff_ne]; exact c1
        by_cases c2 : 0 ≤ pin
        ·by_cases c3 : qin = pin
         ·have hd : d = 6 := HT.out (.inr ⟨c2, c3⟩)
          have c3' : (qin == pin) = true := by rw [beq_iff_eq]; exact c3
          subst hd
          clear c1 c3 HT HT2
          go_wp2_with fail
          go_quiet (fail)
          go_wp2_with fail
          go_ret
          exact ⟨rfl, S.out.1.bel.trans (below_drewN (Below.refl _ _) _)⟩
         ·have c3' : (qin == pin) = false := by rw [beq_eq_false_iff_ne]; exact c3
          have HNX := Lib.hid (HT2.out (by rintro (h | ⟨_, h⟩); exact c1 h; exact c3 h))
          clear c1 c3 HT HT2
          go_wp2_with fail
          go_quiet (fail)
          go_wp2_with fail
          go_roundw
          case rel => exact ⟨k + 1, by go_num, by omega, HNX.out, S.out.below (below_drewN (Below.refl _ _) _)⟩
          case measure => show i - ((k : Int) + 1).toNat < i - (k : Int).toNat; omega
        ·have HNX := Lib.hid (HT2.out (by rintro (h | ⟨h, _⟩); exact c1 h; exact c2 h))
         have c2' : decide (0 ≤ pin) = false := decide_eq_false c2
         clear c1 HT HT2
         go_wp2_with fail
         go_quiet (fail)
         go_wp2_with fail
         go_roundw
         case rel => exact ⟨k + 1, by go_num, by omega, HNX.out, S.out.below (below_drewN (Below.refl _ _) _)⟩
         case measure => show i - ((k : Int) + 1).toNat < i - (k : Int).toNat; omega
      ·have hk0 : (i : Int) ≤ (k : Int) := by omega
       obtain rfl : k = i := by omega
       have HB : Hid (GoodTo ws (k + 1)) := Lib.hid (HG.out.succ HP2.out (.inr (.inr ⟨HR.out, fun ⟨j, q, hj, hq, hh⟩ => HNO.out j q hj hq hh, rfl⟩)))
       go_wp2_with fail
       go_roundw
       case rel => exact ⟨k + 1, by go_num, by omega, HB.out, S.out⟩
       case measure => show total ws - ((k : Int) + 1).toNat < total ws - (k : Int).toNat; omega
   ·have hi0 : (total ws : Int) ≤ (i : Int) := by omega
    have hd : d = 0 := HC.out.all HN.out.1 HN.out.2 (by rw [show total ws = i by omega]; exact HG.out)
    subst hd
    go_wp2_with fail
    go_ret
    exact ⟨rfl, S.out.1.bel⟩
end Go.Proofs.Ytkoacclbempmdaa
