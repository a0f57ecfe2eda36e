/- Contract of reader.word. -/
import Derived.Test.YtlhgpeelenelbaaDoorH2
import Derived.Deep.LoopGhost
namespace Go.Proofs.YtlhgpeelenelbaaDoor
open Go.RowKit

/-- A reader in block R, over a text in T, which stands where A says; it has failed or not. -/
def RdAt (A T R : Nat) (s : ByteArray) (st : Nat × Bool) (w : World) : Prop :=
  Boxed w A 3 (.int .i64 st.1) ∧ Boxed w T 9 (.string s) ∧ w.heap[R]? = some (.cells #[.func (.func 111) #[] #[.pointer (some ⟨A, 0, none⟩), .pointer (some ⟨T, 0, none⟩)], .bool st.2] 140 (0, 0))
section
variable {A T R : Nat} {s : ByteArray} {st : Nat × Bool} {w w' : World}
theorem RdAt.grown {bs : List Nat} (h : RdAt A T R s st w) (hg : GrownL bs w w') (hA : A ∉ bs) (hT : T ∉ bs) (hR : R ∉ bs) : RdAt A T R s st w' :=
  ⟨(hg.block A h.1.lt hA).trans h.1, (hg.block T h.2.1.lt hT).trans h.2.1, (hg.block R (Array.getElem?_eq_some_iff.1 h.2.2).1 hR).trans h.2.2⟩
theorem RdAt.ne (h : RdAt A T R s st w) : A ≠ T ∧ A ≠ R ∧ T ≠ R := by
  obtain ⟨h1, h2, h3⟩ := h
  refine ⟨fun e => ?_, fun e => ?_, fun e => ?_⟩
  · subst e; have := h1.symm.trans h2; simp at this
  · subst e; have := (show w.heap[A]? = _ from h1).symm.trans h3; simp at this
  · subst e; have := (show w.heap[T]? = _ from h2).symm.trans h3; simp at this
theorem RdAt.lt (h : RdAt A T R s st w) : A < w.heap.size ∧ T < w.heap.size ∧ R < w.heap.size := ⟨h.1.lt, h.2.1.lt, (Array.getElem?_eq_some_iff.1 h.2.2).1⟩
theorem RdAt.r0 (h : RdAt A T R s st w) : w.cell? ⟨R, 0, none⟩ = some (.func (.func 111) #[] #[.pointer (some ⟨A, 0, none⟩), .pointer (some ⟨T, 0, none⟩)]) := by simp [World.cell?, h.2.2]
theorem RdAt.r1 (h : RdAt A T R s st w) : w.cell? ⟨R, 1, none⟩ = some (.bool st.2) := by simp [World.cell?, h.2.2]
theorem RdAt.rf (h : RdAt A T R s st w) (i : Nat) : w.frozen? ⟨R, i, none⟩ = false := by simp [World.frozen?, h.2.2]
theorem RdAt.move (h : RdAt A T R s st w) (a : Nat) : RdAt A T R s (a, st.2) (w.setCell ⟨A, 0, none⟩ (.int .i64 a)) :=
  ⟨h.1.set _, boxed_set_other h.2.1 (h.ne.1.symm), (Below.heap_setCell w ⟨A, 0, none⟩ _ R h.ne.2.1.symm).trans h.2.2⟩
theorem RdAt.fail (h : RdAt A T R s st w) (b : Bool) : RdAt A T R s (st.1, b) (w.setCell ⟨R, 1, none⟩ (.bool b)) := by
  refine ⟨(Below.heap_setCell w ⟨R, 1, none⟩ _ A h.ne.2.1).trans h.1, (Below.heap_setCell w ⟨R, 1, none⟩ _ T h.ne.2.2).trans h.2.1, ?_⟩
  simp [World.setCell, Array.getElem?_modify, h.2.2]
end
def WordPost (A T R : Nat) (s : ByteArray) (st : Nat × Bool) (w : World) (e : Ending) (w' : World) : Prop :=
  (∃ v, e = .returned v) ∧ RdAt A T R s st w' ∧ GrownL [A, R] w w'

set_option maxHeartbeats 4000000 in
set_option maxRecDepth 1000000 in
theorem readWord_any (A T R : Nat) (s wd : ByteArray) (st : Nat × Bool) (w : World) (h : RdAt A T R s st w) (hat : st.1 ≤ s.size) (hsx : s.size ≤ 1000000) (hmx : wd.size ≤ 1000000) :
    Calls Tryd.prog 134 #[.pointer (some ⟨R, 0, none⟩), .string wd] w (WordPost A T R s (wordF s.data.toList wd.data.toList st) w) := by
  obtain ⟨l1, l2, l3⟩ := h.lt
  obtain ⟨n1, n2, n3⟩ := h.ne
  have HH := Lib.hid h
  have hwl : wd.data.toList.length = wd.size := rfl
  have HWL := Lib.hid hwl
  clear h hwl
  go_enter Tryd.func134, Tryd.ntmps134
  go_wp2_with fail
  have g0 : GrownL [A, R] w ((w.alloc (.cells #[.string wd] 9)).alloc (.cells #[.int .i64 0] 3)) := GrownL.of_below (((Below.refl _ _).alloc (Nat.le_refl _) _).alloc (by simp) _)
  have r0 := HH.out.grown (bs := []) (GrownL.of_below (((Below.refl w.heap.size w).alloc (Nat.le_refl _) (.cells #[.string wd] 9)).alloc (by simp) (.cells #[.int .i64 0] 3))) (by simp) (by simp) (by simp)
  have b0 := (Boxed.new w 9 (.string wd)).alloc (.cells #[.int .i64 0] 3)
  have b1 := Boxed.new (w.alloc (.cells #[.string wd] 9)) 3 (.int .i64 0)
  rw [World.size_alloc] at b1
  have S0 := Lib.hid (And.intro g0 (And.intro r0 (And.intro b0 b1)))
  clear g0 r0 b0 b1
  go_loopg [4] wd.size (fun g u wr => ∃ i bi : Nat, u = .pointer (some ⟨bi, 0, none⟩) ∧ i + g = wd.size ∧ Boxed wr bi 3 (.int .i64 i) ∧ w.heap.size < bi ∧ Boxed wr w.heap.size 9 (.string wd) ∧ RdAt A T R s (wordF s.data.toList (wd.data.toList.take i) st) wr ∧ GrownL [A, R] w wr)
  case atStart => exact ⟨0, w.heap.size + 1, rfl, by omega, S0.out.2.2.2, by omega, S0.out.2.2.1, S0.out.2.1, S0.out.1⟩
  case round =>
    obtain ⟨i, bi, rfl, hig, hbi, hbl, hbw, hrd, hgr⟩ := hrel
    have HIG := Lib.hid hig
    have HBI := Lib.hid hbi
    have HBW := Lib.hid hbw
    have HRD := Lib.hid hrd
    have HG := Lib.hid hgr
    have c1 := hbi.cell
    have c2 := hbw.cell
    have r0 := hrd.r0
    have r1 := hrd.r1
    have rf := hrd.rf 1
    clear hbi hbw hrd hgr
    by_cases hi : i < wd.size
    · have hi' : (i : Int) < (wd.size : Int) := by omega
      have HT : Hid (wordF s.data.toList (wd.data.toList.take (i + 1)) st = stepW s.data.toList (wordF s.data.toList (wd.data.toList.take i) st) wd[i]) := Lib.hid (by
        rw [List.take_succ_eq_append_getElem (show i < wd.data.toList.length from hi), wordF_snoc]; rfl)
      have HE := Lib.hid (wordF_le s.data.toList (wd.data.toList.take i) st hat)
      have HF : Hid ((wordF s.data.toList (wd.data.toList.take i) st).2 = true → wordF s.data.toList wd.data.toList st = wordF s.data.toList (wd.data.toList.take i) st) := Lib.hid (fun hb => by
        conv => lhs; rw [← List.take_append_drop i wd.data.toList]
        have e : ∀ (l1 l2 : List UInt8), wordF s.data.toList (l1 ++ l2) st = wordF s.data.toList l2 (wordF s.data.toList l1 st) := fun l1 l2 => by simp [wordF, List.foldl_append]
        rw [e]
        generalize wordF s.data.toList (wd.data.toList.take i) st = q at *
        obtain ⟨q1, q2⟩ := q
        simp only at hb
        subst hb
        exact wordF_bad _ _ _)
      have HQ0 := HF.out
      clear HF
      generalize hq : wordF s.data.toList (wd.data.toList.take i) st = q at *
      obtain ⟨a, bad⟩ := q
      have HF := Lib.hid HQ0
      clear hq HQ0
      cases bad
      · -- the next byte is taken
        obtain ⟨e1, e2⟩ := HE.out
        simp only at e1 e2
        have TK := Lib.hid (takeW_any A T w.heap.size bi s wd a i wr hi hmx e1 hsx HRD.out.1 HRD.out.2.1 HBW.out HBI.out)
        go_wp2_with fail
        refine TK.out.mono ?_
        rintro e w4 (⟨hF, rfl, rfl⟩ | ⟨hF, rfl, rfl⟩)
        · have HFF := Lib.hid hF
          clear hF
          go_wp2_with fail
          have k1 := HRD.out.fail true
          have g1 : GrownL [A, R] w4 (w4.setCell ⟨R, 1, none⟩ (.bool true)) := GrownL.set _ _ _ (by simp)
          have g2 : ∀ bs : List Nat, GrownL bs (w4.setCell ⟨R, 1, none⟩ (.bool true)) ((w4.setCell ⟨R, 1, none⟩ (.bool true)).alloc (.cells #[.int .i64 ((i : Int) + 1)] 3)) := fun bs => GrownL.of_below ((Below.refl _ _).alloc (Nat.le_refl _) _)
          have hsz := HG.out.size
          have hblt := HBI.out.lt
          go_roundg (gk - 1)
          case measure => omega
          case rel =>
            refine ⟨i + 1, w4.heap.size, rfl, by omega, ?_, by omega, ?_, ?_, (HG.out.trans g1).trans (g2 _)⟩
            · have := Boxed.new (w4.setCell ⟨R, 1, none⟩ (.bool true)) 3 (.int .i64 ((i : Int) + 1))
              simpa [go_sem] using this
            · exact (Boxed.alloc ((Below.heap_setCell w4 ⟨R, 1, none⟩ _ w.heap.size (by show w.heap.size ≠ R; omega)).trans HBW.out) _)
            · rw [HT.out, show stepW s.data.toList (a, false) wd[i] = (a, true) by unfold stepW; rw [if_neg (by simp), if_neg HFF.out]]
              exact k1.grown (g2 []) (by simp) (by simp) (by simp)
        · have HFF := Lib.hid hF
          clear hF
          have hm := HRD.out.move (a + 1)
          have m0 : (wr.setCell ⟨A, 0, none⟩ (.int .i64 ((a : Int) + 1))).cell? ⟨R, 0, none⟩ = some (.func (.func 111) #[] #[.pointer (some ⟨A, 0, none⟩), .pointer (some ⟨T, 0, none⟩)]) := hm.r0
          have m1 : (wr.setCell ⟨A, 0, none⟩ (.int .i64 ((a : Int) + 1))).cell? ⟨R, 1, none⟩ = some (.bool false) := hm.r1
          have mf : (wr.setCell ⟨A, 0, none⟩ (.int .i64 ((a : Int) + 1))).frozen? ⟨R, 1, none⟩ = false := hm.rf 1
          have hbne : bi ≠ A := by omega
          have mb := (boxed_set_other (v' := .int .i64 ((a : Int) + 1)) HBI.out hbne).cell
          have HM := Lib.hid hm
          clear hm
          go_wp2_with fail
          have k1 := HM.out.fail false
          have g1 : GrownL [A, R] wr (((wr.setCell ⟨A, 0, none⟩ (.int .i64 ((a : Int) + 1)))).setCell ⟨R, 1, none⟩ (.bool false)) := (GrownL.set _ _ _ (by simp)).trans (GrownL.set _ _ _ (by simp))
          have g2 : ∀ bs : List Nat, GrownL bs (((wr.setCell ⟨A, 0, none⟩ (.int .i64 ((a : Int) + 1)))).setCell ⟨R, 1, none⟩ (.bool false)) ((((wr.setCell ⟨A, 0, none⟩ (.int .i64 ((a : Int) + 1)))).setCell ⟨R, 1, none⟩ (.bool false)).alloc (.cells #[.int .i64 ((i : Int) + 1)] 3)) := fun bs => GrownL.of_below ((Below.refl _ _).alloc (Nat.le_refl _) _)
          have hsz := HG.out.size
          have hblt := HBI.out.lt
          go_roundg (gk - 1)
          case measure => omega
          case rel =>
            refine ⟨i + 1, wr.heap.size, rfl, by omega, ?_, by omega, ?_, ?_, (HG.out.trans g1).trans (g2 _)⟩
            · have := Boxed.new (((wr.setCell ⟨A, 0, none⟩ (.int .i64 ((a : Int) + 1)))).setCell ⟨R, 1, none⟩ (.bool false)) 3 (.int .i64 ((i : Int) + 1))
              simpa [go_sem] using this
            · exact (Boxed.alloc ((Below.heap_setCell _ ⟨R, 1, none⟩ _ w.heap.size (by show w.heap.size ≠ R; omega)).trans (boxed_set_other HBW.out (by omega))) _)
            · rw [HT.out, show stepW s.data.toList (a, false) wd[i] = (a + 1, false) by unfold stepW; rw [if_neg (by simp), if_pos HFF.out]]
              exact k1.grown (g2 []) (by simp) (by simp) (by simp)
      · -- it has failed
        go_wp2_with fail
        go_end0
        have hf := HF.out trivial
        exact ⟨⟨_, rfl⟩, by rw [hf]; exact HRD.out, HG.out⟩
    · obtain rfl : i = wd.size := by omega
      have HE : Hid (wd.data.toList.take wd.size = wd.data.toList) := Lib.hid (List.take_of_length_le (by rw [HWL.out]; exact Nat.le_refl _))
      go_wp2_with fail
      go_end0
      exact ⟨⟨_, rfl⟩, by have := HRD.out; rwa [HE.out] at this, HG.out⟩
end Go.Proofs.YtlhgpeelenelbaaDoor
