/- Contract of find. -/
import Derived.Test.YtkoacclbempmdaaGJ
import Derived.WalkMore
namespace Go.Proofs.Ytkoacclbempmdaa
open Go.RowKit

/-- What find says. -/
def FindR (ws : Wk) (id a b c : Int) (f : Bool) : Prop := (∃ (i : Nat) (p : Pl), FstIs (fun o : Ou => o.id) (outs ws) id i ∧ (allP ws)[i]? = some p ∧ a = i ∧ b = p.c ∧ c = p.n ∧ f = true) ∨ (FstIs (fun o : Ou => o.id) (outs ws) id (-1) ∧ a = 0 ∧ b = 0 ∧ c = 0 ∧ f = false)
/-- What find keeps: its works, its answer, and the place it counts in. -/
structure FiI (w : World) (v : Value) (m : Nat) (W : World) : Prop where
 s : Wd w v W
 r0 : W.cell? ⟨w.heap.size + 1, 0, none⟩ = some (.int .i64 0)
 r1 : W.cell? ⟨w.heap.size + 1, 1, none⟩ = some (.int .i64 0)
 r2 : W.cell? ⟨w.heap.size + 1, 2, none⟩ = some (.int .i64 0)
 rf0 : W.frozen? ⟨w.heap.size + 1, 0, none⟩ = false
 rf1 : W.frozen? ⟨w.heap.size + 1, 1, none⟩ = false
 rf2 : W.frozen? ⟨w.heap.size + 1, 2, none⟩ = false
 a0 : W.cell? ⟨w.heap.size + 1 + 1, 0, none⟩ = some (.int .i64 m)
 a1 : W.cell? ⟨w.heap.size + 1 + 1, 1, none⟩ = some (.int .i64 0)
 a2 : W.cell? ⟨w.heap.size + 1 + 1, 2, none⟩ = some (.int .i64 0)
 af0 : W.frozen? ⟨w.heap.size + 1 + 1, 0, none⟩ = false
 af1 : W.frozen? ⟨w.heap.size + 1 + 1, 1, none⟩ = false
 af2 : W.frozen? ⟨w.heap.size + 1 + 1, 2, none⟩ = false
theorem FiI.siz {w W : World} {v : Value} {m : Nat} (h : FiI w v m W) : w.heap.size + 3 ≤ W.heap.size := World.block_lt_of_cell? _ _ h.a0
theorem FiI.below {w W W' : World} {v : Value} {m : Nat} (h : FiI w v m W) (hb : Below W.heap.size W W') : FiI w v m W' := by
 have hs := h.siz
 exact ⟨h.s.below hb, (hb.cell (p := ⟨w.heap.size + 1, 0, none⟩) (by show w.heap.size + 1 < _; omega)).trans h.r0, (hb.cell (p := ⟨w.heap.size + 1, 1, none⟩) (by show w.heap.size + 1 < _; omega)).trans h.r1, (hb.cell (p := ⟨w.heap.size + 1, 2, none⟩) (by show w.heap.size + 1 < _; omega)).trans h.r2,
  (hb.frozen (p := ⟨w.heap.size + 1, 0, none⟩) (by show w.heap.size + 1 < _; omega)).trans h.rf0, (hb.frozen (p := ⟨w.heap.size + 1, 1, none⟩) (by show w.heap.size + 1 < _; omega)).trans h.rf1, (hb.frozen (p := ⟨w.heap.size + 1, 2, none⟩) (by show w.heap.size + 1 < _; omega)).trans h.rf2,
  (hb.cell (p := ⟨w.heap.size + 1 + 1, 0, none⟩) (by show w.heap.size + 1 + 1 < _; omega)).trans h.a0, (hb.cell (p := ⟨w.heap.size + 1 + 1, 1, none⟩) (by show w.heap.size + 1 + 1 < _; omega)).trans h.a1, (hb.cell (p := ⟨w.heap.size + 1 + 1, 2, none⟩) (by show w.heap.size + 1 + 1 < _; omega)).trans h.a2,
  (hb.frozen (p := ⟨w.heap.size + 1 + 1, 0, none⟩) (by show w.heap.size + 1 + 1 < _; omega)).trans h.af0, (hb.frozen (p := ⟨w.heap.size + 1 + 1, 1, none⟩) (by show w.heap.size + 1 + 1 < _; omega)).trans h.af1, (hb.frozen (p := ⟨w.heap.size + 1 + 1, 2, none⟩) (by show w.heap.size + 1 + 1 < _; omega)).trans h.af2⟩

theorem FiI.next {w W : World} {v : Value} {m : Nat} (h : FiI w v m W) : FiI w v (m + 1) (W.setCell ⟨w.heap.size + 1 + 1, 0, none⟩ (.int .i64 ((m : Int) + 1))) :=
 ⟨h.s.grown (GrownL.set (bs := [w.heap.size + 1 + 1]) _ _ _ (by simp)) (by simp), by simp [go_sem, h.r0], by simp [go_sem, h.r1], by simp [go_sem, h.r2], by simp [go_sem, h.rf0], by simp [go_sem, h.rf1], by simp [go_sem, h.rf2], by simp [go_sem, h.a0], by simp [go_sem, h.a1], by simp [go_sem, h.a2], by simp [go_sem, h.af0], by simp [go_sem, h.af1], by simp [go_sem, h.af2]⟩
def fiEnd (w W : World) (m k j : Nat) : World := ((((W.setCell ⟨w.heap.size + 1 + 1, 1, none⟩ (.int .i64 k)).setCell ⟨w.heap.size + 1 + 1, 2, none⟩ (.int .i64 j)).setCell ⟨w.heap.size + 1, 0, none⟩ (.int .i64 m)).setCell ⟨w.heap.size + 1, 1, none⟩ (.int .i64 k)).setCell ⟨w.heap.size + 1, 2, none⟩ (.int .i64 j)
theorem FiI.ret {w W : World} {v : Value} {m : Nat} (h : FiI w v m W) (k j : Nat) :
  (((((W.setCell ⟨w.heap.size + 1 + 1, 1, none⟩ (.int .i64 k)).setCell ⟨w.heap.size + 1 + 1, 2, none⟩ (.int .i64 j)).setCell ⟨w.heap.size + 1, 0, none⟩ (.int .i64 m)).setCell ⟨w.heap.size + 1, 1, none⟩ (.int .i64 k)).setCell ⟨w.heap.size + 1, 2, none⟩ (.int .i64 j)).cell? ⟨w.heap.size + 1, 0, none⟩ = some (.int .i64 m) ∧
  (((((W.setCell ⟨w.heap.size + 1 + 1, 1, none⟩ (.int .i64 k)).setCell ⟨w.heap.size + 1 + 1, 2, none⟩ (.int .i64 j)).setCell ⟨w.heap.size + 1, 0, none⟩ (.int .i64 m)).setCell ⟨w.heap.size + 1, 1, none⟩ (.int .i64 k)).setCell ⟨w.heap.size + 1, 2, none⟩ (.int .i64 j)).cell? ⟨w.heap.size + 1, 1, none⟩ = some (.int .i64 k) ∧
  (((((W.setCell ⟨w.heap.size + 1 + 1, 1, none⟩ (.int .i64 k)).setCell ⟨w.heap.size + 1 + 1, 2, none⟩ (.int .i64 j)).setCell ⟨w.heap.size + 1, 0, none⟩ (.int .i64 m)).setCell ⟨w.heap.size + 1, 1, none⟩ (.int .i64 k)).setCell ⟨w.heap.size + 1, 2, none⟩ (.int .i64 j)).cell? ⟨w.heap.size + 1, 2, none⟩ = some (.int .i64 j) ∧
  Below w.heap.size w (((((W.setCell ⟨w.heap.size + 1 + 1, 1, none⟩ (.int .i64 k)).setCell ⟨w.heap.size + 1 + 1, 2, none⟩ (.int .i64 j)).setCell ⟨w.heap.size + 1, 0, none⟩ (.int .i64 m)).setCell ⟨w.heap.size + 1, 1, none⟩ (.int .i64 k)).setCell ⟨w.heap.size + 1, 2, none⟩ (.int .i64 j)) := by
 refine ⟨by simp [go_sem, h.r0], by simp [go_sem, h.r1], by simp [go_sem, h.r2], ?_⟩
 have g : GrownL [w.heap.size + 1, w.heap.size + 1 + 1] W _ := ((((GrownL.set W ⟨w.heap.size + 1 + 1, 1, none⟩ (.int .i64 k) (by simp)).trans (GrownL.set _ ⟨w.heap.size + 1 + 1, 2, none⟩ (.int .i64 j) (by simp))).trans (GrownL.set _ ⟨w.heap.size + 1, 0, none⟩ (.int .i64 m) (by simp))).trans (GrownL.set _ ⟨w.heap.size + 1, 1, none⟩ (.int .i64 k) (by simp))).trans (GrownL.set _ ⟨w.heap.size + 1, 2, none⟩ (.int .i64 j) (by simp))
 exact h.s.bel.trans (g.below (by simp; omega) h.s.bel.size)

theorem FiI.ret0 {w W : World} {v : Value} {m : Nat} (h : FiI w v m W) :
  (((W.setCell ⟨w.heap.size + 1, 0, none⟩ (.int .i64 0)).setCell ⟨w.heap.size + 1, 1, none⟩ (.int .i64 0)).setCell ⟨w.heap.size + 1, 2, none⟩ (.int .i64 0)).cell? ⟨w.heap.size + 1, 0, none⟩ = some (.int .i64 0) ∧
  (((W.setCell ⟨w.heap.size + 1, 0, none⟩ (.int .i64 0)).setCell ⟨w.heap.size + 1, 1, none⟩ (.int .i64 0)).setCell ⟨w.heap.size + 1, 2, none⟩ (.int .i64 0)).cell? ⟨w.heap.size + 1, 1, none⟩ = some (.int .i64 0) ∧
  (((W.setCell ⟨w.heap.size + 1, 0, none⟩ (.int .i64 0)).setCell ⟨w.heap.size + 1, 1, none⟩ (.int .i64 0)).setCell ⟨w.heap.size + 1, 2, none⟩ (.int .i64 0)).cell? ⟨w.heap.size + 1, 2, none⟩ = some (.int .i64 0) ∧
  Below w.heap.size w (((W.setCell ⟨w.heap.size + 1, 0, none⟩ (.int .i64 0)).setCell ⟨w.heap.size + 1, 1, none⟩ (.int .i64 0)).setCell ⟨w.heap.size + 1, 2, none⟩ (.int .i64 0)) := by
 refine ⟨by simp [go_sem, h.r0], by simp [go_sem, h.r1], by simp [go_sem, h.r2], ?_⟩
 have g : GrownL [w.heap.size + 1] W _ := ((GrownL.set W ⟨w.heap.size + 1, 0, none⟩ (.int .i64 0) (by simp)).trans (GrownL.set _ ⟨w.heap.size + 1, 1, none⟩ (.int .i64 0) (by simp))).trans (GrownL.set _ ⟨w.heap.size + 1, 2, none⟩ (.int .i64 0) (by simp))
 exact h.s.bel.trans (g.below (by simp) h.s.bel.size)

set_option maxHeartbeats 16000000 in
set_option maxRecDepth 1000000 in
theorem find_any (v : Value) (ws : Wk) (id : Int) (w : World) (h : RK w.heap.size v ws w) (ht : total ws ≤ 100000) :
  Calls Try.prog 91 #[.agg #[v], .int .i64 id] w fun e w' => ∃ a b c f, e = .returned (.tuple #[.agg #[.int .i64 a, .int .i64 b, .int .i64 c], .bool f]) ∧ FindR ws id a b c f ∧ Below w.heap.size w w' := by
 obtain ⟨A, c, rfl, n1, hx⟩ := h
 have HX := Lib.hid hx
 have S0 := Lib.hid (Wd.new (w := w) (v := .slice A ws.length c) 24)
 obtain ⟨r, hr⟩ := FstIs.exists_ (fun o : Ou => o.id) (outs ws) id
 have HR := Lib.hid hr
 clear hx hr
 go_enter Try.func91, Try.ntmps91
 go_wp2_with fail
 go_step3
 go_wp2_with fail
 go_step3
 go_wp2_with fail
 go_loopw [6, 16] (fun f u wr => f = .bool false ∧ ∃ k : Nat, u = .int .i64 k ∧ k ≤ ws.length ∧ (∀ (j : Nat) o, j < pre ws k → (outs ws)[j]? = some o → o.id ≠ id) ∧ FiI w (.slice A ws.length c) (pre ws k) wr) (fun _ u _ => ws.length - (intOf u).toNat)
 case atStart =>
  refine ⟨rfl, 0, rfl, by omega, fun j o hj => by rw [pre_zero] at hj; omega, ?_⟩
  rw [pre_zero]
  exact ⟨(S0.out.below ((Below.refl _ _).alloc (Nat.le_refl _) _)).below ((Below.refl _ _).alloc (Nat.le_refl _) _), by simp [go_sem], by simp [go_sem], by simp [go_sem], by simp [go_sem], by simp [go_sem], by simp [go_sem], by simp [go_sem], by simp [go_sem], by simp [go_sem], by simp [go_sem], by simp [go_sem], by simp [go_sem]⟩
 case round =>
  obtain ⟨rfl, k, rfl, hk, hno, hF⟩ := hrel
  have HNO := Lib.hid hno
  have HF := Lib.hid hF
  clear hno hF
  by_cases hkl : k < ws.length
  ·obtain ⟨b, o0, rfl, hbB, hcs⟩ := HX.out (by omega)
   have hk0 : (k : Int) < (ws.length : Int) := by omega
   obtain ⟨os, hos⟩ : ∃ os, ws[k]? = some os := ⟨_, List.getElem?_eq_getElem hkl⟩
   obtain ⟨u, hu, hro⟩ := hcs k os hos
   obtain ⟨A1, c1, rfl⟩ := hro.slice
   have HU := Lib.hid hu
   have HOS := Lib.hid hos
   have HRO := Lib.hid hro
   have d0 := (HF.out.s.bel.cell (p := ⟨b, o0 + k, none⟩) hbB).trans hu
   clear hu hro hos hcs
   go_wp2_with fail
   go_loopw [6, 24] (fun f u wi => f = .bool false ∧ ∃ j : Nat, u = .int .i64 j ∧ j ≤ os.length ∧ (∀ (t : Nat) o, t < pre ws k + j → (outs ws)[t]? = some o → o.id ≠ id) ∧ FiI w (.slice (some ⟨b, o0, none⟩) ws.length c) (pre ws k + j) wi) (fun _ u _ => os.length - (intOf u).toNat)
   case atStart => exact ⟨rfl, 0, rfl, by omega, HNO.out, HF.out.below ((Below.refl _ _).alloc (Nat.le_refl _) _)⟩
   case round =>
    obtain ⟨rfl, j, rfl, hj, hno, hF⟩ := hrel
    have HNJ := Lib.hid hno
    have HG := Lib.hid hF
    clear hno hF d0
    have htp := pre_le ws (k + 1)
    rw [pre_succ HOS.out] at htp
    by_cases hjl : j < os.length
    ·have hj0 : (j : Int) < (os.length : Int) := by omega
     obtain ⟨x, hx⟩ : ∃ x, os[j]? = some x := ⟨_, List.getElem?_eq_getElem hjl⟩
     have hP := allP_get HOS.out hx
     have hO := (outs_get hP).1
     have HPP := Lib.hid hP
     have HOO := Lib.hid hO
     obtain ⟨bo, oo, c2, e1, -, -⟩ := (HRO.out.rr.1.up (Nat.le_refl _) HG.out.s.bel).at_ EO hx
     simp only [Value.slice.injEq] at e1
     obtain ⟨rfl, -, -⟩ := e1
     have q0 : wr.cell? ⟨bo, oo + j * 7, none⟩ = some (.int .i64 x.id) := (HRO.out.rr.1.up (Nat.le_refl _) HG.out.s.bel).cellsAt EO hx (i := 0) rfl
     have hg := HG.out
     have q1 : wr.cell? ⟨bo, oo + j * 7 + 1, none⟩ = some (.int .i64 x.into) := (HRO.out.rr.1.up (Nat.le_refl _) hg.s.bel).cellsAt EO hx (i := 1) rfl
     have q2 : wr.cell? ⟨bo, oo + j * 7 + 2, none⟩ = some (.slice x.pa x.ps.length x.pc) := (HRO.out.rr.1.up (Nat.le_refl _) hg.s.bel).cellsAt EO hx (i := 2) rfl
     have q3 : wr.cell? ⟨bo, oo + j * 7 + 3, none⟩ = some (.int .i64 x.k0) := (HRO.out.rr.1.up (Nat.le_refl _) hg.s.bel).cellsAt EO hx (i := 3) rfl
     have q4 : wr.cell? ⟨bo, oo + j * 7 + 4, none⟩ = some (.int .i64 x.k1) := (HRO.out.rr.1.up (Nat.le_refl _) hg.s.bel).cellsAt EO hx (i := 4) rfl
     have q5 : wr.cell? ⟨bo, oo + j * 7 + 5, none⟩ = some (.int .i64 x.s0) := (HRO.out.rr.1.up (Nat.le_refl _) hg.s.bel).cellsAt EO hx (i := 5) rfl
     have q6 : wr.cell? ⟨bo, oo + j * 7 + 6, none⟩ = some (.int .i64 x.s1) := (HRO.out.rr.1.up (Nat.le_refl _) hg.s.bel).cellsAt EO hx (i := 6) rfl
     have hga := hg.below ((Below.refl wr.heap.size wr).alloc (Nat.le_refl _) (.cells #[.int .i64 x.id, .int .i64 x.into, .slice x.pa x.ps.length x.pc, .int .i64 x.k0, .int .i64 x.k1, .int .i64 x.s0, .int .i64 x.s1] 42))
     have a0 := hga.a0
     have a1 := hga.a1
     have a2 := hga.a2
     have af0 := hga.af0
     have af1 := hga.af1
     have af2 := hga.af2
     have r0 := hga.r0
     have r1 := hga.r1
     have r2 := hga.r2
     have rf0 := hga.rf0
     have rf1 := hga.rf1
     have rf2 := hga.rf2
     have hsz := hg.siz
     have hmt : pre ws k + j ≤ 100000 := by omega
     have hm0 : ((pre ws k + j : Nat) : Int) ≤ 100000 := by omega
     obtain ⟨m, hm⟩ : ∃ m, pre ws k + j = m := ⟨_, rfl⟩
     have HM := Lib.hid hm
     rw [hm] at HPP HOO HNJ HG a0 hmt hm0 hP hO hg hga
     have HGA := Lib.hid hga
     clear hg hx hP hO hga hm
     by_cases he : x.id = id
     ·have heb : (x.id == id) = true := by simp [he]
      have HE := Lib.hid he
      clear he
      go_wp2_with fail
      obtain ⟨p0, p1, p2, bb⟩ := HGA.out.ret k j
      refine bodyPost_ret (v := .tuple #[.agg #[.int .i64 m, .int .i64 k, .int .i64 j], .bool true]) (by simp [results, Try.results91, go_sem, p0, p1, p2]) rfl ?_
      exact ⟨_, _, _, _, rfl, .inl ⟨m, _, .inl ⟨m, _, HOO.out, HE.out, HNJ.out, rfl⟩, HPP.out, rfl, rfl, rfl, rfl⟩, bb⟩
     ·have heb : (x.id == id) = false := by simp [he]
      have HE := Lib.hid he
      clear he
      go_wp2_with fail
      go_roundw
      case rel =>
       refine ⟨rfl, j + 1, by go_num, by omega, ?_, ?_⟩
       ·intro t o ht' ho
        rcases Nat.lt_or_ge t m with h | h
        ·exact HNJ.out t o h ho
        ·obtain rfl : t = m := by have := HM.out; omega
         rw [HOO.out] at ho
         cases ho
         exact HE.out
       ·rw [← Nat.add_assoc, HM.out]
        exact HGA.out.next
      case measure => show os.length - ((j : Int) + 1).toNat < os.length - (j : Int).toNat; omega
    ·have hj0 : (os.length : Int) ≤ (j : Int) := by omega
     obtain rfl : j = os.length := by omega
     go_wp2_with fail
     go_roundw
     case rel => exact ⟨rfl, k + 1, by go_num, by omega, by rw [pre_succ HOS.out]; exact HNJ.out, by rw [pre_succ HOS.out]; exact HG.out⟩
     case measure => show ws.length - ((k : Int) + 1).toNat < ws.length - (k : Int).toNat; omega
  ·have hk0 : (ws.length : Int) ≤ (k : Int) := by omega
   obtain rfl : k = ws.length := by omega
   have hf := HF.out
   have r0 := hf.r0
   have r1 := hf.r1
   have r2 := hf.r2
   have rf0 := hf.rf0
   have rf1 := hf.rf1
   have rf2 := hf.rf2
   clear hf
   go_wp2_with fail
   try simp only [Exit.noGoto_ret]
   obtain ⟨p0, p1, p2, bb⟩ := HF.out.ret0
   refine bodyPost_ret (v := .tuple #[.agg #[.int .i64 0, .int .i64 0, .int .i64 0], .bool false]) (by simp [results, Try.results91, go_sem, p0, p1, p2]) rfl ?_
   refine ⟨_, _, _, _, rfl, .inr ⟨?_, rfl, rfl, rfl, rfl⟩, bb⟩
   have e := HR.out.none_ (fun t o ho => HNO.out t o (by have h2 := (List.getElem?_eq_some_iff.1 ho).1; rw [outs_len] at h2; exact h2) ho)
   rw [← e]
   exact HR.out
end Go.Proofs.Ytkoacclbempmdaa

/- Contract of checkOutlet. -/
namespace Go.Proofs.Ytkoacclbempmdaa
open Go.RowKit

set_option maxHeartbeats 8000000 in
set_option maxRecDepth 1000000 in
theorem checkOutlet_any (v : Value) (ws : Wk) (id i d : Int) (w : World) (h : RK w.heap.size v ws w) (ht : total ws ≤ 100000) (hk : KnownIs ws id i d) :
  Calls Try.prog 88 #[.agg #[v], .int .i64 id] w fun e w' => e = .returned (.int .i64 d) ∧ Below w.heap.size w w' := by
 obtain ⟨A, c, rfl, -⟩ := (show ∃ A c, v = .slice A ws.length c ∧ True by obtain ⟨A, c, e, _⟩ := h; exact ⟨A, c, e, trivial⟩)
 have C1 := Lib.hid fun (d : Int) (hc : CheckIs ws d) W (S : Wd w (.slice A ws.length c) W) => check_any (.slice A ws.length c) ws d W (h.up S.siz S.bel) (by omega) hc
 have C2 := Lib.hid fun W (S : Wd w (.slice A ws.length c) W) => find_any (.slice A ws.length c) ws id W (h.up S.siz S.bel) ht
 have S0 := Lib.hid (Wd.new (w := w) (v := .slice A ws.length c) 24)
 clear h
 rcases hk with ⟨hc, hd, rfl⟩ | ⟨hc, hf, rfl, rfl⟩ | ⟨hc, hf, hi, rfl⟩
 ·have HC := Lib.hid hc
  have HD := Lib.hid hd
  clear hc hd
  go_enter Try.func88, Try.ntmps88
  go_wp2_with fail
  refine (C1.out d HC.out _ S0.out).mono ?_
  rintro e w1 ⟨rfl, b1⟩
  have S := Lib.hid (S0.out.below b1)
  have hd := HD.out
  clear b1
  go_wp2_with fail
  go_ret
  exact ⟨rfl, S.out.bel⟩
 ·have HC := Lib.hid hc
  have HF := Lib.hid hf
  clear hc hf
  go_enter Try.func88, Try.ntmps88
  go_wp2_with fail
  refine (C1.out 0 HC.out _ S0.out).mono ?_
  rintro e w1 ⟨rfl, b1⟩
  have S := Lib.hid (S0.out.below b1)
  have t0 := S.out.c
  clear b1
  go_wp2_with fail
  refine (C2.out _ S.out).mono ?_
  rintro e w2 ⟨xa, xb, xc, f, rfl, hR, b2⟩
  have S2 := Lib.hid (S.out.below b2)
  clear b2 t0
  obtain ⟨rfl, rfl, rfl, rfl⟩ : xa = 0 ∧ xb = 0 ∧ xc = 0 ∧ f = false := by
   rcases hR with ⟨k, p, h1, -⟩ | ⟨-, h⟩
   ·have := h1.unique HF.out; omega
   ·exact h
  go_wp2_with fail
  go_ret
  exact ⟨rfl, S2.out.bel.alloc S2.out.bel.size _⟩
 ·have HC := Lib.hid hc
  have HF := Lib.hid hf
  clear hc hf
  go_enter Try.func88, Try.ntmps88
  go_wp2_with fail
  refine (C1.out 0 HC.out _ S0.out).mono ?_
  rintro e w1 ⟨rfl, b1⟩
  have S := Lib.hid (S0.out.below b1)
  have t0 := S.out.c
  clear b1
  go_wp2_with fail
  refine (C2.out _ S.out).mono ?_
  rintro e w2 ⟨xa, xb, xc, f, rfl, hR, b2⟩
  have S2 := Lib.hid (S.out.below b2)
  clear b2 t0
  obtain rfl : f = true := by
   rcases hR with ⟨k, p, h1, -, -, -, -, h⟩ | ⟨h1, -⟩
   ·exact h
   ·have := h1.unique HF.out; omega
  go_wp2_with fail
  go_ret
  exact ⟨rfl, S2.out.bel.alloc S2.out.bel.size _⟩
end Go.Proofs.Ytkoacclbempmdaa

/- Contract of cut, at numbers. -/
namespace Go.Proofs.Ytkoacclbempmdaa
open Go.RowKit

theorem RR.take {α : Type} {enc : α → List Value} {s B n c : Nat} {A : Option Addr} {l : List α} {w : World} (E : Enc enc s) (h : RR enc B (.slice A l.length c) l w) (hn : n ≤ l.length) : RR enc B (.slice A n c) (l.take n) w := by
 obtain ⟨A', c', e, hf, hc⟩ := h
 simp only [Value.slice.injEq, true_and] at e
 obtain ⟨rfl, rfl⟩ := e
 have hl : (l.take n).length = n := by rw [List.length_take]; omega
 refine ⟨A, c, by rw [hl], by rw [hl]; exact Nat.le_trans hn hf, fun hp => ?_⟩
 rw [hl] at hp
 obtain ⟨b, o, rfl, hb, hk⟩ := hc (by omega)
 refine ⟨b, o, rfl, hb, fun j u hj => hk j u ?_⟩
 obtain ⟨k, i, x, h1, h2, rfl, h4⟩ := E.inv hj
 rw [E.at_ l k i x (by rw [List.getElem?_take] at h1; split at h1 <;> simp_all) h2]
 exact h4

set_option maxHeartbeats 8000000 in
set_option maxRecDepth 1000000 in
theorem cutI_any (A : Option Addr) (c n : Nat) (l : List Int) (w : World) (h : RR encI w.heap.size (.slice A l.length c) l w) (hn : n ≤ l.length) (hl : l.length ≤ 100000) (hc : n ≤ c) :
  Calls Try.prog 80 #[.slice A l.length c, .int .i64 n] w fun e w' => ∃ u, e = .returned u ∧ OwnG encI 1 3 w.heap.size u (l.take n) w' ∧ Below w.heap.size w w' := by
 obtain ⟨i0, hz0, hj0, hj1, hj2⟩ := info_parts infoInt
 obtain ⟨v', W', r1, o1, g1, s1⟩ := app_list (P := Try.prog) (base := w.heap.size) EI Try.underlying25 hz0 hj0 hj1 hj2 rfl (OwnG.nil _ _ _ _ _) (h.take EI hn) (Below.refl _ _) (Nat.le_refl _) (by simp) (by rw [List.length_take]; omega) (by decide)
 have R1 := Lib.hid r1
 have O1 : Hid (OwnG encI 1 3 w.heap.size v' (l.take n) W') := Lib.hid o1
 have G1 : Hid (Below w.heap.size w W') := Lib.hid (g1.below (by simp [Value.ownBlock]) (Nat.le_refl _))
 have hn0 : (n : Int) ≤ (l.length : Int) := by omega
 clear r1 o1 g1 s1 h
 go_enter Try.func80, Try.ntmps80
 go_wp2_with (at_builtin; refine Lib.wpList_append_run _ rfl _ _ _ _ rfl _ _ rfl rfl _ W' R1.out ?_)
 go_ret
 exact ⟨_, rfl, O1.out, G1.out⟩
set_option maxHeartbeats 8000000 in
set_option maxRecDepth 1000000 in
theorem cutO_any (A : Option Addr) (c n : Nat) (l : List Ou) (w : World) (h : RR encO w.heap.size (.slice A l.length c) l w) (hn : n ≤ l.length) (hl : l.length ≤ 100000) (hc : n ≤ c) :
  Calls Try.prog 136 #[.slice A l.length c, .int .i64 n] w fun e w' => ∃ u, e = .returned u ∧ OwnG encO 7 42 w.heap.size u (l.take n) w' ∧ Below w.heap.size w w' := by
 obtain ⟨i0, hz0, hj0, hj1, hj2⟩ := info_parts infoOutlet
 obtain ⟨v', W', r1, o1, g1, s1⟩ := app_list (P := Try.prog) (base := w.heap.size) EO Try.underlying36 hz0 hj0 hj1 hj2 rfl (OwnG.nil _ _ _ _ _) (h.take EO hn) (Below.refl _ _) (Nat.le_refl _) (by simp) (by rw [List.length_take]; omega) (by decide)
 have R1 := Lib.hid r1
 have O1 : Hid (OwnG encO 7 42 w.heap.size v' (l.take n) W') := Lib.hid o1
 have G1 : Hid (Below w.heap.size w W') := Lib.hid (g1.below (by simp [Value.ownBlock]) (Nat.le_refl _))
 have hn0 : (n : Int) ≤ (l.length : Int) := by omega
 clear r1 o1 g1 s1 h
 go_enter Try.func136, Try.ntmps136
 go_wp2_with (at_builtin; refine Lib.wpList_append_run _ rfl _ _ _ _ rfl _ _ rfl rfl _ W' R1.out ?_)
 go_ret
 exact ⟨_, rfl, O1.out, G1.out⟩

set_option maxHeartbeats 8000000 in
set_option maxRecDepth 1000000 in
theorem boards_any (x : Ou) (w : World) (hl : x.ps.length ≤ 100000) : Calls Try.prog 94 #[ouV x] w fun e w' => e = .returned (sv2 0 ((x.ps.length : Int) - 1)) ∧ Below w.heap.size w w' := by
 have hl0 : (x.ps.length : Int) ≤ 100000 := by omega
 go_enter Try.func94, Try.ntmps94
 go_wp2_with fail
 refine bodyPost_ret (v := sv2 0 ((x.ps.length : Int) - 1)) (by simp [results, Try.results94, go_sem]; try (go_num)) rfl ?_
 exact ⟨rfl, ((Below.refl _ _).alloc (Nat.le_refl _) _).alloc (by simp) _⟩
end Go.Proofs.Ytkoacclbempmdaa

/- Contracts of areIn and fits. -/
namespace Go.Proofs.Ytkoacclbempmdaa
open Go.RowKit

/-- Numbers lie in their spans. -/
def areB (l : List Int) (ss : List (Int × Int)) (i : Nat) : Bool := match l[i]?, ss[i]? with
 | some n, some s => inB s.1 s.2 n
 | _, _ => true
def allIn (l : List Int) (ss : List (Int × Int)) : Bool := decide (∀ i, i < l.length → areB l ss i = true)

set_option maxHeartbeats 8000000 in
set_option maxRecDepth 1000000 in
theorem areIn_any (v s : Value) (l : List Int) (ss : List (Int × Int)) (w : World) (h : RR encI w.heap.size v l w) (h2 : RR enc2 w.heap.size s ss w) (hl : l.length ≤ ss.length) (hb : ss.length ≤ 100000) :
  Calls Try.prog 133 #[v, s] w fun e w' => e = .returned (.bool (allIn l ss)) ∧ Below w.heap.size w w' := by
 obtain ⟨A, c, rfl⟩ := h.slice
 obtain ⟨A2, c2, rfl⟩ := h2.slice
 have H := Lib.hid h
 have H2 := Lib.hid h2
 obtain ⟨r, hr⟩ : ∃ r, allIn l ss = r := ⟨_, rfl⟩
 have HR := Lib.hid hr
 have hll : (ss.length : Int) ≤ 100000 := by omega
 rw [hr]
 clear h h2 hr
 go_enter Try.func133, Try.ntmps133
 have hll2 : (l.length : Int) ≤ (ss.length : Int) := by omega
 go_wp2_with fail
 go_loopw [9] (fun u wr => ∃ i : Nat, u = .int .i64 i ∧ i ≤ l.length ∧ (∀ j, j < i → areB l ss j = true) ∧ Below w.heap.size w wr) (fun u _ => l.length - (intOf u).toNat)
 case atStart => exact ⟨0, rfl, by omega, fun j hj => by omega, Below.refl _ _⟩
 case round =>
  obtain ⟨i, rfl, hi, hno, hb⟩ := hrel
  have HNO := Lib.hid hno
  have HB := Lib.hid hb
  clear hno
  by_cases hil : i < l.length
  ·have hi0 : (i : Int) < (l.length : Int) := by omega
   have hi1 : (i : Int) < (ss.length : Int) := by omega
   obtain ⟨n, hn⟩ : ∃ n, l[i]? = some n := ⟨_, List.getElem?_eq_getElem hil⟩
   obtain ⟨⟨lo, hi2⟩, hs⟩ : ∃ s, ss[i]? = some s := ⟨_, List.getElem?_eq_getElem (by omega)⟩
   have HE : Hid (areB l ss i = inB lo hi2 n) := Lib.hid (by unfold areB; rw [hn, hs])
   obtain ⟨bo, oo, c1, e1, -, -⟩ := (H.out.up hb.size hb).at_ EI hn
   simp only [Value.slice.injEq] at e1
   obtain ⟨rfl, -, -⟩ := e1
   obtain ⟨bs, os, c3, e2, -, -⟩ := (H2.out.up hb.size hb).at_ E2 hs
   simp only [Value.slice.injEq] at e2
   obtain ⟨rfl, -, -⟩ := e2
   have q0 : wr.cell? ⟨bo, oo + i, none⟩ = some (.int .i64 n) := by have := (H.out.up hb.size hb).cellsAt EI hn (i := 0) rfl; rwa [Nat.mul_one] at this
   have q1 : wr.cell? ⟨bs, os + i * 2, none⟩ = some (.int .i64 lo) := (H2.out.up hb.size hb).cellsAt E2 hs (i := 0) rfl
   have q2 : wr.cell? ⟨bs, os + i * 2 + 1, none⟩ = some (.int .i64 hi2) := (H2.out.up hb.size hb).cellsAt E2 hs (i := 1) rfl
   clear hn hs hb
   go_wp2_with fail
   refine (hasN_any lo hi2 n wr).mono ?_
   rintro e w1 ⟨rfl, b1⟩
   have HB1 := Lib.hid (HB.out.trans (b1.mono HB.out.size))
   obtain ⟨b, hb⟩ : ∃ b, inB lo hi2 n = b := ⟨_, rfl⟩
   rw [hb] at HE ⊢
   clear hb b1 q0 q1 q2
   cases b
   ·go_wp2_with fail
    go_ret
    exact ⟨by rw [← HR.out, show allIn l ss = false from decide_eq_false (fun h => by have := h i hil; rw [HE.out] at this; cases this)]; rfl, HB1.out⟩
   ·go_wp2_with fail
    go_roundw
    case rel => exact ⟨i + 1, by go_num, by omega, fun j hj => by
     rcases Nat.lt_or_ge j i with h | h
     ·exact HNO.out j h
     ·obtain rfl : j = i := by omega
      exact HE.out, HB1.out⟩
    case measure => show l.length - ((i : Int) + 1).toNat < l.length - (i : Int).toNat; omega
  ·have hi0 : (l.length : Int) ≤ (i : Int) := by omega
   obtain rfl : i = l.length := by omega
   go_wp2_with fail
   go_ret
   exact ⟨by rw [← HR.out, show allIn l ss = true from decide_eq_true HNO.out]; rfl, hb⟩

set_option maxHeartbeats 8000000 in
set_option maxRecDepth 1000000 in
theorem fits_any (cR cB sR sB sL sS : Value) (R B : List Int) (CR CB : List (Int × Int)) (w : World) (h1 : RR encI w.heap.size sR R w) (h2 : RR encI w.heap.size sB B w) (h3 : RR enc2 w.heap.size cR CR w) (h4 : RR enc2 w.heap.size cB CB w)
  (hl1 : R.length ≤ CR.length) (hl2 : B.length ≤ CB.length) (hb1 : CR.length ≤ 100000) (hb2 : CB.length ≤ 100000) :
  Calls Try.prog 86 #[.agg #[cR, cB], .agg #[sR, sB, sL, sS]] w fun e w' => e = .returned (.bool (allIn R CR && allIn B CB)) ∧ Below w.heap.size w w' := by
 have C1 := Lib.hid fun W (hb : Below w.heap.size w W) => areIn_any sR cR R CR W (h1.up hb.size hb) (h3.up hb.size hb) hl1 hb1
 have C2 := Lib.hid fun W (hb : Below w.heap.size w W) => areIn_any sB cB B CB W (h2.up hb.size hb) (h4.up hb.size hb) hl2 hb2
 obtain ⟨a, ha⟩ : ∃ a, allIn R CR = a := ⟨_, rfl⟩
 obtain ⟨b, hb⟩ : ∃ b, allIn B CB = b := ⟨_, rfl⟩
 rw [ha] at C1 ⊢
 rw [hb] at C2 ⊢
 clear ha hb h1 h2 h3 h4 hl1 hl2 hb1 hb2
 go_enter Try.func86, Try.ntmps86
 go_wp2_with fail
 have hb0 : Below w.heap.size w ((w.alloc (.cells #[cR, cB] 46)).alloc (.cells #[sR, sB, sL, sS] 27)) := ((Below.refl _ _).alloc (Nat.le_refl _) _).alloc (by simp) _
 refine (C1.out _ hb0).mono ?_
 rintro e w1 ⟨rfl, b1⟩
 have x0 : w1.cell? ⟨w.heap.size, 1, none⟩ = some cB := (b1.cell (p := ⟨w.heap.size, 1, none⟩) (by simp; omega)).trans (by simp [go_sem])
 have x1 : w1.cell? ⟨w.heap.size + 1, 1, none⟩ = some sB := (b1.cell (p := ⟨w.heap.size + 1, 1, none⟩) (by simp)).trans (by simp [go_sem])
 have HB1 := Lib.hid (hb0.trans (b1.mono hb0.size))
 clear b1
 cases a
 ·go_wp2_with fail
  go_ret
  exact ⟨rfl, HB1.out⟩
 ·go_wp2_with fail
  refine (C2.out _ HB1.out).mono ?_
  rintro e w2 ⟨rfl, b2⟩
  have HB2 := Lib.hid (HB1.out.trans (b2.mono HB1.out.size))
  clear b2
  go_wp2_with fail
  go_ret
  exact ⟨rfl, HB2.out⟩
end Go.Proofs.Ytkoacclbempmdaa

/- Contracts of SameInts, SameSpans at equal lists. -/
namespace Go.Proofs.Ytkoacclbempmdaa
open Go.RowKit

set_option maxHeartbeats 8000000 in
set_option maxRecDepth 1000000 in
theorem sameInts_any (v u : Value) (l : List Int) (w : World) (h : RR encI w.heap.size v l w) (h2 : RR encI w.heap.size u l w) (hb : l.length ≤ 1000000) :
  Calls Try.prog 42 #[v, u] w fun e w' => e = .returned (.bool true) ∧ Below w.heap.size w w' := by
 obtain ⟨A, c, rfl⟩ := h.slice
 obtain ⟨A2, c2, rfl⟩ := h2.slice
 have H := Lib.hid h
 have H2 := Lib.hid h2
 have hll : (l.length : Int) ≤ 1000000 := by omega
 clear h h2
 go_enter Try.func42, Try.ntmps42
 go_wp2_with fail
 go_loopw [5] (fun k wr => ∃ i : Nat, k = .int .i64 i ∧ i ≤ l.length ∧ Below w.heap.size w wr) (fun k _ => l.length - (intOf k).toNat)
 case atStart => exact ⟨0, rfl, by omega, Below.refl _ _⟩
 case round =>
  obtain ⟨i, rfl, hi, hb⟩ := hrel
  have HB := Lib.hid hb
  by_cases hil : i < l.length
  ·have hi0 : (i : Int) < (l.length : Int) := by omega
   obtain ⟨x, hx⟩ : ∃ x, l[i]? = some x := ⟨_, List.getElem?_eq_getElem hil⟩
   obtain ⟨bo, oo, c1, e1, -, -⟩ := (H.out.up hb.size hb).at_ EI hx
   simp only [Value.slice.injEq] at e1
   obtain ⟨rfl, -, -⟩ := e1
   obtain ⟨bs, os, c3, e2, -, -⟩ := (H2.out.up hb.size hb).at_ EI hx
   simp only [Value.slice.injEq] at e2
   obtain ⟨rfl, -, -⟩ := e2
   have q0 : wr.cell? ⟨bo, oo + i, none⟩ = some (.int .i64 x) := by have := (H.out.up hb.size hb).cellsAt EI hx (i := 0) rfl; rwa [Nat.mul_one] at this
   have q1 : wr.cell? ⟨bs, os + i, none⟩ = some (.int .i64 x) := by have := (H2.out.up hb.size hb).cellsAt EI hx (i := 0) rfl; rwa [Nat.mul_one] at this
   clear hx hb
   go_wp2_with fail
   go_region
   all_goals go_wp2_with fail
   all_goals go_roundw
   all_goals first
    | exact ⟨i + 1, by go_num, by omega, HB.out.trans ⟨rfl, rfl, rfl, Nat.le_refl _, fun _ _ => rfl⟩⟩
    | (show l.length - ((i : Int) + 1).toNat < l.length - (i : Int).toNat; omega)
  ·have hi0 : (l.length : Int) ≤ (i : Int) := by omega
   obtain rfl : i = l.length := by omega
   go_wp2_with fail
   go_ret
   exact ⟨rfl, hb⟩

set_option maxHeartbeats 8000000 in
set_option maxRecDepth 1000000 in
theorem sameSpans_any (v u : Value) (l : List (Int × Int)) (w : World) (h : RR enc2 w.heap.size v l w) (h2 : RR enc2 w.heap.size u l w) (hb : l.length ≤ 1000000) :
  Calls Try.prog 67 #[v, u] w fun e w' => e = .returned (.bool true) ∧ Below w.heap.size w w' := by
 obtain ⟨A, c, rfl⟩ := h.slice
 obtain ⟨A2, c2, rfl⟩ := h2.slice
 have H := Lib.hid h
 have H2 := Lib.hid h2
 have hll : (l.length : Int) ≤ 1000000 := by omega
 clear h h2
 go_enter Try.func67, Try.ntmps67
 go_wp2_with fail
 go_loopw [5] (fun k wr => ∃ i : Nat, k = .int .i64 i ∧ i ≤ l.length ∧ Below w.heap.size w wr) (fun k _ => l.length - (intOf k).toNat)
 case atStart => exact ⟨0, rfl, by omega, Below.refl _ _⟩
 case round =>
  obtain ⟨i, rfl, hi, hb⟩ := hrel
  have HB := Lib.hid hb
  by_cases hil : i < l.length
  ·have hi0 : (i : Int) < (l.length : Int) := by omega
   obtain ⟨x, hx⟩ : ∃ x, l[i]? = some x := ⟨_, List.getElem?_eq_getElem hil⟩
   obtain ⟨bo, oo, c1, e1, -, -⟩ := (H.out.up hb.size hb).at_ E2 hx
   simp only [Value.slice.injEq] at e1
   obtain ⟨rfl, -, -⟩ := e1
   obtain ⟨bs, os, c3, e2, -, -⟩ := (H2.out.up hb.size hb).at_ E2 hx
   simp only [Value.slice.injEq] at e2
   obtain ⟨rfl, -, -⟩ := e2
   obtain ⟨x1, x2⟩ := x
   have q0 : wr.cell? ⟨bo, oo + i * 2, none⟩ = some (.int .i64 x1) := (H.out.up hb.size hb).cellsAt E2 hx (i := 0) rfl
   have q1 : wr.cell? ⟨bo, oo + i * 2 + 1, none⟩ = some (.int .i64 x2) := (H.out.up hb.size hb).cellsAt E2 hx (i := 1) rfl
   have q2 : wr.cell? ⟨bs, os + i * 2, none⟩ = some (.int .i64 x1) := (H2.out.up hb.size hb).cellsAt E2 hx (i := 0) rfl
   have q3 : wr.cell? ⟨bs, os + i * 2 + 1, none⟩ = some (.int .i64 x2) := (H2.out.up hb.size hb).cellsAt E2 hx (i := 1) rfl
   clear hx hb
   go_wp2_with fail
   go_region
   all_goals go_wp2_with fail
   all_goals go_roundw
   all_goals first
    | exact ⟨i + 1, by go_num, by omega, HB.out.trans ⟨rfl, rfl, rfl, Nat.le_refl _, fun _ _ => rfl⟩⟩
    | (show l.length - ((i : Int) + 1).toNat < l.length - (i : Int).toNat; omega)
  ·have hi0 : (l.length : Int) ≤ (i : Int) := by omega
   obtain rfl : i = l.length := by omega
   go_wp2_with fail
   go_ret
   exact ⟨rfl, hb⟩
end Go.Proofs.Ytkoacclbempmdaa

/- Contract of SameWater at equal waters. -/
namespace Go.Proofs.Ytkoacclbempmdaa
open Go.RowKit

/-- The blocks of the two waters. -/
structure W2B (w : World) (a b : Array Value) (W : World) : Prop where
 ca : W.heap[w.heap.size]? = some (.cells a 27)
 cb : W.heap[w.heap.size + 1]? = some (.cells b 27)
 bel : Below w.heap.size w W
theorem W2B.below {w W W' : World} {a b : Array Value} (h : W2B w a b W) (hb : Below W.heap.size W W') : W2B w a b W' :=
 ⟨(hb.block _ (Array.getElem?_eq_some_iff.1 h.ca).1).trans h.ca, (hb.block _ (Array.getElem?_eq_some_iff.1 h.cb).1).trans h.cb, h.bel.trans (hb.mono h.bel.size)⟩
theorem W2B.cells {w W : World} {r b l s r' b' l' s' : Value} (h : W2B w #[r, b, l, s] #[r', b', l', s'] W) :
  W.cell? ⟨w.heap.size, 1, none⟩ = some b ∧ W.cell? ⟨w.heap.size, 2, none⟩ = some l ∧ W.cell? ⟨w.heap.size, 3, none⟩ = some s ∧ W.cell? ⟨w.heap.size + 1, 1, none⟩ = some b' ∧ W.cell? ⟨w.heap.size + 1, 2, none⟩ = some l' ∧ W.cell? ⟨w.heap.size + 1, 3, none⟩ = some s' := by
 have h1 := h.ca
 have h2 := h.cb
 refine ⟨?_, ?_, ?_, ?_, ?_, ?_⟩ <;> simp [World.cell?, h1, h2]

set_option maxHeartbeats 8000000 in
set_option maxRecDepth 1000000 in
theorem sameWater_any (r b l s r' b' l' s' : Value) (R B L S : List Int) (w : World) (h1 : RR encI w.heap.size r R w) (h2 : RR encI w.heap.size b B w) (h3 : RR encI w.heap.size l L w) (h4 : RR encI w.heap.size s S w)
  (k1 : RR encI w.heap.size r' R w) (k2 : RR encI w.heap.size b' B w) (k3 : RR encI w.heap.size l' L w) (k4 : RR encI w.heap.size s' S w) (hR : R.length ≤ 1000000) (hB : B.length ≤ 1000000) (hL : L.length ≤ 1000000) (hS : S.length ≤ 1000000) :
  Calls Try.prog 66 #[.agg #[r, b, l, s], .agg #[r', b', l', s']] w fun e w' => e = .returned (.bool true) ∧ Below w.heap.size w w' := by
 have C1 := Lib.hid fun W (hb : Below w.heap.size w W) => sameInts_any r r' R W (h1.up hb.size hb) (k1.up hb.size hb) hR
 have C2 := Lib.hid fun W (hb : Below w.heap.size w W) => sameInts_any b b' B W (h2.up hb.size hb) (k2.up hb.size hb) hB
 have C3 := Lib.hid fun W (hb : Below w.heap.size w W) => sameInts_any l l' L W (h3.up hb.size hb) (k3.up hb.size hb) hL
 have C4 := Lib.hid fun W (hb : Below w.heap.size w W) => sameInts_any s s' S W (h4.up hb.size hb) (k4.up hb.size hb) hS
 have S0 : Hid (W2B w #[r, b, l, s] #[r', b', l', s'] ((w.alloc (.cells #[r, b, l, s] 27)).alloc (.cells #[r', b', l', s'] 27))) := Lib.hid ⟨(Below.heap_alloc _ _ _ (by simp)).trans (World.alloc_heap_new w _), by have := World.alloc_heap_new (w.alloc (.cells #[r, b, l, s] 27)) (.cells #[r', b', l', s'] 27); rwa [World.size_alloc] at this, ((Below.refl _ _).alloc (Nat.le_refl _) _).alloc (by simp) _⟩
 clear h1 h2 h3 h4 k1 k2 k3 k4 hR hB hL hS
 go_enter Try.func66, Try.ntmps66
 go_wp2_with fail
 refine (C1.out _ S0.out.bel).mono ?_
 rintro e w1 ⟨rfl, b1⟩
 have S1 := Lib.hid (S0.out.below b1)
 clear b1 S0
 obtain ⟨x1, x2, x3, y1, y2, y3⟩ := S1.out.cells
 go_wp2_with fail
 refine (C2.out _ S1.out.bel).mono ?_
 rintro e w2 ⟨rfl, b2⟩
 have S2 := Lib.hid (S1.out.below b2)
 clear b2 S1 x1 x2 x3 y1 y2 y3
 obtain ⟨x1, x2, x3, y1, y2, y3⟩ := S2.out.cells
 go_wp2_with fail
 refine (C3.out _ S2.out.bel).mono ?_
 rintro e w3 ⟨rfl, b3⟩
 have S3 := Lib.hid (S2.out.below b3)
 clear b3 S2 x1 x2 x3 y1 y2 y3
 obtain ⟨x1, x2, x3, y1, y2, y3⟩ := S3.out.cells
 go_wp2_with fail
 refine (C4.out _ S3.out.bel).mono ?_
 rintro e w4 ⟨rfl, b4⟩
 have S4 := Lib.hid (S3.out.below b4)
 clear b4 S3 x1 x2 x3 y1 y2 y3
 go_wp2_with fail
 go_ret
 exact ⟨rfl, S4.out.bel⟩
end Go.Proofs.Ytkoacclbempmdaa
