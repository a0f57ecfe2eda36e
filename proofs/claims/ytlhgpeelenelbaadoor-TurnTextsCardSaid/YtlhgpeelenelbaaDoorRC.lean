/- Contract of the specification's Parse. -/
import Derived.Test.YtlhgpeelenelbaaDoorRB
import Derived.Test.YtlhgpeelenelbaaDoorRA
import Derived.Test.YtlhgpeelenelbaaDoorQC
namespace Go.Proofs.YtlhgpeelenelbaaDoor
open Go.RowKit

section
variable {W : World} {b T : Nat} {x y z u v : Value}
theorem set4_0 (h : W.heap[b]? = some (.cells #[x, y, z, u] T (0, 0))) : (W.setCell ⟨b, 0, none⟩ v).heap[b]? = some (.cells #[v, y, z, u] T (0, 0)) := by simp [World.setCell, Array.getElem?_modify, h]
theorem set4_1 (h : W.heap[b]? = some (.cells #[x, y, z, u] T (0, 0))) : (W.setCell ⟨b, 1, none⟩ v).heap[b]? = some (.cells #[x, v, z, u] T (0, 0)) := by simp [World.setCell, Array.getElem?_modify, h]
theorem set4_2 (h : W.heap[b]? = some (.cells #[x, y, z, u] T (0, 0))) : (W.setCell ⟨b, 2, none⟩ v).heap[b]? = some (.cells #[x, y, v, u] T (0, 0)) := by simp [World.setCell, Array.getElem?_modify, h]
theorem set4_3 (h : W.heap[b]? = some (.cells #[x, y, z, u] T (0, 0))) : (W.setCell ⟨b, 3, none⟩ v).heap[b]? = some (.cells #[x, y, z, v] T (0, 0)) := by simp [World.setCell, Array.getElem?_modify, h]
end
/-- All four cells of a block set. -/
def Set4 (W : World) (b : Nat) (x y z u : Value) : World := (((W.setCell ⟨b, 0, none⟩ x).setCell ⟨b, 1, none⟩ y).setCell ⟨b, 2, none⟩ z).setCell ⟨b, 3, none⟩ u
theorem Set4.cells {W : World} {b T : Nat} {x y z u x' y' z' u' : Value} (h : W.heap[b]? = some (.cells #[x, y, z, u] T (0, 0))) :
    (Set4 W b x' y' z' u').cell? ⟨b, 0, none⟩ = some x' ∧ (Set4 W b x' y' z' u').cell? ⟨b, 1, none⟩ = some y' ∧ (Set4 W b x' y' z' u').cell? ⟨b, 2, none⟩ = some z' ∧ (Set4 W b x' y' z' u').cell? ⟨b, 3, none⟩ = some u' := by
  have q := set4_3 (v := u') (set4_2 (v := z') (set4_1 (v := y') (set4_0 (v := x') h)))
  exact ⟨heap_cell q 0, heap_cell q 1, heap_cell q 2, heap_cell q 3⟩
theorem Set4.grown (W : World) (b : Nat) (x y z u : Value) : GrownL [b] W (Set4 W b x y z u) :=
  (((GrownL.set _ _ _ (by simp)).trans (GrownL.set _ _ _ (by simp))).trans (GrownL.set _ _ _ (by simp))).trans (GrownL.set _ _ _ (by simp))
/-- What the specification's Parse returns. -/
def RParsePost (s : ByteArray) (w : World) (e : Ending) (w' : World) : Prop :=
  ∃ X nx cx Y ny cy ts ss d, ∃ m : Nat, e = .returned (.agg #[.slice X nx cx, .slice Y ny cy, .int .i64 d, .int .i64 m]) ∧ parseF s.data.toList = ((ts, ss), d, m) ∧ RM w'.heap.size (.agg #[.slice X nx cx, .slice Y ny cy]) ts ss w' ∧ Below w.heap.size w w'
theorem rm_nil' (w : World) (B : Nat) : RM B (.agg #[.slice none 0 0, .slice none 0 0]) [] [] w := ⟨_, _, _, _, _, _, rfl, rtN _ _, rsN _ _⟩

set_option maxHeartbeats 2000000 in
set_option maxRecDepth 100000 in
theorem rparse_long (s : ByteArray) (w : World) (h2 : 3000 < s.size) : Calls Tryd.prog 54 #[.string s] w (RParsePost s w) := by
  have hle : 3000 < (s.size : Int) := by omega
  have HB : Hid (parseF s.data.toList = (([], []), 2, 0)) := Lib.hid (by unfold parseF; rw [if_pos (show 3000 < s.data.toList.length from h2)])
  clear h2
  go_enter Tryd.func54, Tryd.ntmps54
  go_wp2_with fail
  refine bodyPost_ret (v := .agg #[.slice none 0 0, .slice none 0 0, .int .i64 2, .int .i64 0]) (by simp [results, Tryd.results54, go_sem]) rfl ⟨_, _, _, _, _, _, [], [], 2, 0, rfl, HB.out, rm_nil' _ _, ?_⟩
  first
    | exact (Below.refl _ _).alloc (Nat.le_refl _) _
    | exact (((((Below.refl w.heap.size w).alloc (Nat.le_refl _) _).setCell (p := ⟨w.heap.size, 0, none⟩) (Nat.le_refl _) _).setCell (p := ⟨w.heap.size, 1, none⟩) (Nat.le_refl _) _).setCell (p := ⟨w.heap.size, 2, none⟩) (Nat.le_refl _) _).setCell (p := ⟨w.heap.size, 3, none⟩) (Nat.le_refl _) _
    | exact ((Below.refl w.heap.size w).alloc (Nat.le_refl _) _).setCell (p := ⟨w.heap.size, 2, none⟩) (Nat.le_refl _) _

set_option maxHeartbeats 16000000 in
set_option maxRecDepth 1000000 in
theorem rparse_any (s : ByteArray) (w : World) : Calls Tryd.prog 54 #[.string s] w (RParsePost s w) := by
  by_cases h2 : 3000 < s.size
  · exact rparse_long s w h2
  obtain ⟨iT, hiT, hzT0, hzT1, hzT2⟩ := info_parts infoTurn
  obtain ⟨iS, hiS, hzS0, hzS1, hzS2⟩ := info_parts infoSpan'
  have hle : ¬ (3000 < (s.size : Int)) := by omega
  have hsx : s.size ≤ 1000000 := by omega
  have hsl : s.data.toList.length = s.size := rfl
  have HSL := Lib.hid hsl
  have S0 := Lib.hid (PG.new w s)
  clear hsl
  go_enter Tryd.func54, Tryd.ntmps54
  go_wp2_with fail
  go_loopg [] s.size (fun g wr => ∃ (v0 v1 : Value) (ts : List T3) (ss : List S2) (a : Nat) (bad : Bool), a ≤ s.size ∧ (bad = false → a + g = s.size ∧ ts.length + ss.length ≤ a ∧ partsN s.data.toList ts ss a = partsN s.data.toList [] [] 0) ∧ (bad = true → (partsN s.data.toList [] [] 0).2.2 = (a, true)) ∧ PG w s v0 v1 ts ss (a, bad) wr)
  case atStart => exact ⟨_, _, [], [], 0, false, by simp, fun _ => ⟨by simp, by simp, rfl⟩, (fun h => by cases h), S0.out⟩
  case round =>
    obtain ⟨v0, v1, ts, ss, a, bad, has, hgd, hbd, hS⟩ := hrel
    have S := Lib.hid hS
    have HGD := Lib.hid hgd
    have HBD := Lib.hid hbd
    clear S0 hS hgd hbd
    obtain ⟨r0, r1, r2⟩ := S.out.rd.cells
    simp only at r1 r2
    have d0 := S.out.c0
    have d1 := S.out.c1
    obtain ⟨A1, k1, hv1⟩ := own_form S.out.os
    obtain ⟨A0, k0, hv0⟩ := own_form S.out.ot
    subst hv0 hv1
    cases bad
    · have HG3 := Lib.hid (HGD.out rfl)
      clear HGD HBD
      by_cases hat : a < s.size
      · have hati : (a : Int) < (s.size : Int) := by omega
        by_cases hc1 : (s[a]'hat).toNat = 101
        · by_cases hc2 : ss.length = 0
          · have HCD : Hid ((s[a]'hat).toNat = 101 ∧ ss.length = 0) := Lib.hid ⟨hc1, hc2⟩
            have hb' : (((s[a]'hat).toNat : Int) == 101) = true := beq_iff_eq.2 (by omega)
            have hb3 : (((ss.length : Nat) : Int) == 0) = true := beq_iff_eq.2 (by omega)
            obtain ⟨s1, hs1⟩ : ∃ q, wordF s.data.toList wEvery (a, false) = q := ⟨_, rfl⟩
            obtain ⟨⟨p, s2⟩, hs2⟩ : ∃ q, numG s.data.toList 1 40320 s1 = q := ⟨_, rfl⟩
            obtain ⟨s3, hs3⟩ : ∃ q, wordF s.data.toList wFrom s2 = q := ⟨_, rfl⟩
            obtain ⟨⟨f, s4⟩, hs4⟩ : ∃ q, numG s.data.toList 0 (p - 1) s3 = q := ⟨_, rfl⟩
            obtain ⟨s5, hs5⟩ : ∃ q, wordF s.data.toList wFor s4 = q := ⟨_, rfl⟩
            obtain ⟨⟨l, s6⟩, hs6⟩ : ∃ q, numG s.data.toList 1 p s5 = q := ⟨_, rfl⟩
            obtain ⟨⟨a7, b7⟩, hs7⟩ : ∃ q, wordF s.data.toList wEnd s6 = q := ⟨_, rfl⟩
            have hres : turnG s.data.toList (a, false) = ((p, f, l), (a7, b7)) := by simp only [turnG, hs1, hs2, hs3, hs4, hs5, hs6, hs7]
            have e1 := wordF_le s.data.toList wEvery (a, false) (by rw [HSL.out]; exact Nat.le_of_lt hat)
            rw [hs1, HSL.out] at e1
            have e2 := numG_cases s.data.toList 1 40320 s1 (by rw [HSL.out]; exact e1.1)
            rw [hs2, HSL.out] at e2
            simp only at e2
            have e3 := wordF_le s.data.toList wFrom s2 (by rw [HSL.out]; exact e2.2.1)
            rw [hs3, HSL.out] at e3
            have e4 := numG_cases s.data.toList 0 (p - 1) s3 (by rw [HSL.out]; exact e3.1)
            rw [hs4, HSL.out] at e4
            simp only at e4
            have e5 := wordF_le s.data.toList wFor s4 (by rw [HSL.out]; exact e4.2.1)
            rw [hs5, HSL.out] at e5
            have e6 := numG_cases s.data.toList 1 p s5 (by rw [HSL.out]; exact e5.1)
            rw [hs6, HSL.out] at e6
            simp only at e6
            have e7 := wordF_le s.data.toList wEnd s6 (by rw [HSL.out]; exact e6.2.1)
            rw [hs7, HSL.out] at e7
            simp only at e7
            have hp0 : 0 ≤ p := by omega
            have hp1 : p ≤ 40320 := by omega
            have o3 : s3.2 = false → 1 ≤ p := fun h => by have := (wordF_ok s.data.toList wFrom s2 (by rw [hs3]; exact h)).1; rcases e2.2.2 with q | q; (rw [q.2] at this; cases this); omega
            have o5 : s5.2 = false → 1 ≤ p := fun h => by have := (wordF_ok s.data.toList wFor s4 (by rw [hs5]; exact h)).1; rcases e4.2.2 with q | q; (rw [q.2] at this; cases this); exact o3 q.2.2.2
            have C1 : Hid (∀ W, RgAt (w.heap.size + 1) s (a, false) W → Calls Tryd.prog 114 #[.pointer (some ⟨w.heap.size + 1, 0, none⟩), .string ⟨#[101, 118, 101, 114, 121, 32]⟩] W (GwPost (w.heap.size + 1) s s1 W)) := Lib.hid fun W h => by
              rw [← hs1]; exact gword_any _ s ⟨#[101, 118, 101, 114, 121, 32]⟩ (a, false) W h (Nat.le_of_lt hat) hsx (by decide)
            have C2 : Hid (∀ W, RgAt (w.heap.size + 1) s s1 W → Calls Tryd.prog 115 #[.pointer (some ⟨w.heap.size + 1, 0, none⟩), .int .i64 1, .int .i64 40320] W (GnPost (w.heap.size + 1) s (p, s2) W)) := Lib.hid fun W h => by
              rw [← hs2]; exact gnumber_all _ s 1 40320 s1 W h e1.1 hsx (fun _ => by omega)
            have C3 : Hid (∀ W, RgAt (w.heap.size + 1) s s2 W → Calls Tryd.prog 114 #[.pointer (some ⟨w.heap.size + 1, 0, none⟩), .string ⟨#[32, 102, 114, 111, 109, 32]⟩] W (GwPost (w.heap.size + 1) s s3 W)) := Lib.hid fun W h => by
              rw [← hs3]; exact gword_any _ s ⟨#[32, 102, 114, 111, 109, 32]⟩ s2 W h e2.2.1 hsx (by decide)
            have C4 : Hid (∀ W, RgAt (w.heap.size + 1) s s3 W → Calls Tryd.prog 115 #[.pointer (some ⟨w.heap.size + 1, 0, none⟩), .int .i64 0, .int .i64 (p - 1)] W (GnPost (w.heap.size + 1) s (f, s4) W)) := Lib.hid fun W h => by
              rw [← hs4]; exact gnumber_all _ s 0 (p - 1) s3 W h e3.1 hsx (fun h => by have := o3 h; omega)
            have C5 : Hid (∀ W, RgAt (w.heap.size + 1) s s4 W → Calls Tryd.prog 114 #[.pointer (some ⟨w.heap.size + 1, 0, none⟩), .string ⟨#[32, 102, 111, 114, 32]⟩] W (GwPost (w.heap.size + 1) s s5 W)) := Lib.hid fun W h => by
              rw [← hs5]; exact gword_any _ s ⟨#[32, 102, 111, 114, 32]⟩ s4 W h e4.2.1 hsx (by decide)
            have C6 : Hid (∀ W, RgAt (w.heap.size + 1) s s5 W → Calls Tryd.prog 115 #[.pointer (some ⟨w.heap.size + 1, 0, none⟩), .int .i64 1, .int .i64 p] W (GnPost (w.heap.size + 1) s (l, s6) W)) := Lib.hid fun W h => by
              rw [← hs6]; exact gnumber_all _ s 1 p s5 W h e5.1 hsx (fun h => by have := o5 h; omega)
            have C7 : Hid (∀ W x, x = (⟨#[59, 10]⟩ : ByteArray) → RgAt (w.heap.size + 1) s s6 W → Calls Tryd.prog 114 #[.pointer (some ⟨w.heap.size + 1, 0, none⟩), .string x] W (GwPost (w.heap.size + 1) s (a7, b7) W)) := Lib.hid fun W x hx h => by
              subst hx; rw [← hs7]; exact gword_any _ s ⟨#[59, 10]⟩ s6 W h e6.2.1 hsx (by decide)
            have hsm := turn_same s.data.toList (a, false) (by rw [HSL.out]; exact Nat.le_of_lt hat)
            rw [hres] at hsm
            simp only at hsm
            have HSM := Lib.hid hsm
            clear hsm
            have HST := Lib.hid (partsN_step (ts := ts) (ss := ss) (byte_at hat))
            have HA7 : Hid (a7 ≤ s.size) := Lib.hid e7.1
            have HMV : Hid (b7 = false → a < a7) := Lib.hid (fun hb => by have := turnF_ok (s := s.data.toList) (st := (a, false)) (by rw [← HSM.out.1]; exact hb) (by rw [HSL.out]; exact Nat.le_of_lt hat); rw [← HSM.out.1] at this; exact this.2.2.1)
            have T0 := Lib.hid (TG.new S.out #[.int .i64 0, .int .i64 0, .int .i64 0] 27)
            clear hs1 hs2 hs3 hs4 hs7 hres e1 e2 e3 e4 e7 hs5 hs6 e5 e6 o3 o5 hc1 hc2
            have S1 := S
            clear S
            go_wp2_with fail
            refine (C1.out _ T0.out.pg.rd).mono ?_
            rintro e w1 ⟨⟨y1, rfl⟩, hr, hg⟩
            have T1 := Lib.hid (T0.out.call hr hg)
            clear hr hg T0 r0 r1 r2 d0 d1 S1
            go_wp2_with fail
            refine (C2.out _ T1.out.pg.rd).mono ?_
            rintro e w2 ⟨rfl, hr, hg⟩
            have T2 := Lib.hid (T1.out.call hr hg)
            have c0 := T2.out.cell 0
            have f0 := T2.out.frz 0
            simp at c0
            have T2' := Lib.hid (T2.out.put 0 (.int .i64 p) (set3_0 T2.out.t))
            clear hr hg T1 T2
            go_wp2_with fail
            refine (C3.out _ T2'.out.pg.rd).mono ?_
            rintro e w3 ⟨⟨y3, rfl⟩, hr, hg⟩
            have T3 := Lib.hid (T2'.out.call hr hg)
            have d0 := T3.out.cell 0
            simp at d0
            clear hr hg T2' c0 f0
            go_wp2_with fail
            refine (C4.out _ T3.out.pg.rd).mono ?_
            rintro e w4 ⟨rfl, hr, hg⟩
            have T4 := Lib.hid (T3.out.call hr hg)
            have c1 := T4.out.cell 1
            have f1 := T4.out.frz 1
            simp at c1
            have T4' := Lib.hid (T4.out.put 1 (.int .i64 f) (set3_1 T4.out.t))
            clear hr hg T3 T4 d0
            go_wp2_with fail
            refine (C5.out _ T4'.out.pg.rd).mono ?_
            rintro e w5 ⟨⟨y5, rfl⟩, hr, hg⟩
            have T5 := Lib.hid (T4'.out.call hr hg)
            have d0 := T5.out.cell 0
            simp at d0
            clear hr hg T4' c1 f1
            go_wp2_with fail
            refine (C6.out _ T5.out.pg.rd).mono ?_
            rintro e w6 ⟨rfl, hr, hg⟩
            have T6 := Lib.hid (T5.out.call hr hg)
            have c2 := T6.out.cell 2
            have f2 := T6.out.frz 2
            simp at c2
            have T6' := Lib.hid (T6.out.put 2 (.int .i64 l) (set3_2 T6.out.t))
            clear hr hg T5 T6 d0
            have hcv : ((w6.setCell ⟨wr.heap.size, 2, none⟩ (.int .i64 l)).alloc (.cells #[.int .u8 10] 5)).cell? ⟨w6.heap.size, 0, none⟩ = some (.int .u8 10) := by simp [go_sem]
            have T7 := Lib.hid (T6'.out.alloc (.cells #[.int .u8 10] 5))
            clear T6'
            go_wp2_with fail
            rw [newline_conv hcv]
            simp only [Result.andThen]
            rw [Oper.upon_value]
            go_wp2_with fail
            refine (C7.out _ _ (by first | rfl | exact ByteArray.mk_append_mk [59] [10] | decide) T7.out.pg.rd).mono ?_
            rintro e w7 ⟨⟨y7, rfl⟩, hr, hg⟩
            have T8 := Lib.hid (T7.out.call hr hg)
            have c0' := T8.out.pg.c0
            have f0' := T8.out.pg.f 0
            have g0 := T8.out.cell 0
            have g1 := T8.out.cell 1
            have g2 := T8.out.cell 2
            simp at g0 g1 g2
            clear hr hg T7 hcv
            go_wp2_with (at_builtin; refine wpList_append_own _ rfl _ _ 22 rfl (w.heap.size + 3) 27 iT (.agg #[.int .i64 0, .int .i64 0, .int .i64 0]) 3 24 Tryd.underlying22 hiT hzT0 hzT1 hzT2 rfl (by decide) _ ts.length _ rfl (T8.out.alloc (.cells #[.int .i64 p, .int .i64 f, .int .i64 l] 27)).pg.ot ⟨w7.heap.size, 0, none⟩ 1 1 [.int .i64 p, .int .i64 f, .int .i64 l] rfl rfl ?c1 ?c2 ?c3 ?c4 ?c5 ?_)
            case c1 => exact cells3_new _ _ _ _ _
            case c2 => exact one3 _ _ _
            case c3 => have := HG3.out.2.1; unfold maxLen; omega
            case c4 => have := HG3.out.2.1; omega
            case c5 => have := T8.out.pg.siz; simp <;> omega
            intro v' w8 hown hgrow _
            obtain ⟨g', cap', rfl⟩ := ownsRow_succ hown
            have N := Lib.hid ((T8.out.alloc (.cells #[.int .i64 p, .int .i64 f, .int .i64 l] 27)).pg.turn (x := (p, f, l)) hgrow hown)
            have d50 : w8.cell? ⟨w.heap.size + 1 + 1, 0, none⟩ = some (.slice A0 ts.length k0) := (GrownL.of_row hgrow).cell (T8.out.alloc (.cells #[.int .i64 p, .int .i64 f, .int .i64 l] 27)).pg.c0 (fun hm => by have := (World.ownsRow.lt (T8.out.alloc (.cells #[.int .i64 p, .int .i64 f, .int .i64 l] 27)).pg.ot _ (by simpa using hm)).1; omega)
            have g50 : w8.frozen? ⟨w.heap.size + 1 + 1, 0, none⟩ = false := heap_frozen (((GrownL.of_row hgrow).block _ (by have := (T8.out.alloc (.cells #[.int .i64 p, .int .i64 f, .int .i64 l] 27)).pg.siz; omega) (fun hm => by have := (World.ownsRow.lt (T8.out.alloc (.cells #[.int .i64 p, .int .i64 f, .int .i64 l] 27)).pg.ot _ (by simpa using hm)).1; omega)).trans (T8.out.alloc (.cells #[.int .i64 p, .int .i64 f, .int .i64 l] 27)).pg.set) 0
            clear hown hgrow T8 g0 g1 g2 c0' f0'
            go_wp2_with fail
            obtain ⟨m1, m2, m3⟩ := HG3.out
            cases b7
            · have hst := HST.out
              rw [if_pos HCD.out, ← HSM.out.1] at hst
              rw [if_neg (by intro h; cases h)] at hst
              rw [← HSM.out.2 (by rw [← HSM.out.1])] at hst
              have hmv := HMV.out rfl
              have ha7 := HA7.out
              go_roundg (s.size - a7)
              case measure => omega
              case rel => exact ⟨_, _, ts ++ [(p, f, l)], ss, a7, false, ha7, fun _ => ⟨by omega, by simp only [List.length_append, List.length_cons, List.length_nil]; omega, hst.symm.trans m3⟩, (fun h => by cases h), N.out⟩
            · have hst := HST.out
              rw [if_pos HCD.out, ← HSM.out.1] at hst
              rw [if_pos rfl] at hst
              have ha7 := HA7.out
              go_roundg 0
              case measure => omega
              case rel => exact ⟨_, _, ts ++ [(p, f, l)], ss, a7, true, ha7, (fun h => by cases h), fun _ => by rw [← m3, hst], N.out⟩
          · have HCD : Hid (¬ ((s[a]'hat).toNat = 101 ∧ ss.length = 0)) := Lib.hid (fun h => hc2 h.2)
            have hb' : (((s[a]'hat).toNat : Int) == 101) = true := beq_iff_eq.2 (by omega)
            have hb3 : (((ss.length : Nat) : Int) == 0) = false := beq_eq_false_iff_ne.2 (by omega)
            obtain ⟨s1, hs1⟩ : ∃ q, wordF s.data.toList wBetween (a, false) = q := ⟨_, rfl⟩
            obtain ⟨⟨p, s2⟩, hs2⟩ : ∃ q, numG s.data.toList 0 1048576 s1 = q := ⟨_, rfl⟩
            obtain ⟨s3, hs3⟩ : ∃ q, wordF s.data.toList wAnd s2 = q := ⟨_, rfl⟩
            obtain ⟨⟨f, s4⟩, hs4⟩ : ∃ q, numG s.data.toList p 1048576 s3 = q := ⟨_, rfl⟩
            obtain ⟨⟨a7, b7⟩, hs7⟩ : ∃ q, wordF s.data.toList wEnd s4 = q := ⟨_, rfl⟩
            have hres : spanG s.data.toList (a, false) = ((p, f), (a7, b7)) := by simp only [spanG, hs1, hs2, hs3, hs4, hs7]
            have e1 := wordF_le s.data.toList wBetween (a, false) (by rw [HSL.out]; exact Nat.le_of_lt hat)
            rw [hs1, HSL.out] at e1
            have e2 := numG_cases s.data.toList 0 1048576 s1 (by rw [HSL.out]; exact e1.1)
            rw [hs2, HSL.out] at e2
            simp only at e2
            have e3 := wordF_le s.data.toList wAnd s2 (by rw [HSL.out]; exact e2.2.1)
            rw [hs3, HSL.out] at e3
            have e4 := numG_cases s.data.toList p 1048576 s3 (by rw [HSL.out]; exact e3.1)
            rw [hs4, HSL.out] at e4
            simp only at e4
            have e7 := wordF_le s.data.toList wEnd s4 (by rw [HSL.out]; exact e4.2.1)
            rw [hs7, HSL.out] at e7
            simp only at e7
            have hp0 : 0 ≤ p := by omega
            have hp1 : p ≤ 1048576 := by omega
            have C1 : Hid (∀ W, RgAt (w.heap.size + 1) s (a, false) W → Calls Tryd.prog 114 #[.pointer (some ⟨w.heap.size + 1, 0, none⟩), .string ⟨#[98, 101, 116, 119, 101, 101, 110, 32]⟩] W (GwPost (w.heap.size + 1) s s1 W)) := Lib.hid fun W h => by
              rw [← hs1]; exact gword_any _ s ⟨#[98, 101, 116, 119, 101, 101, 110, 32]⟩ (a, false) W h (Nat.le_of_lt hat) hsx (by decide)
            have C2 : Hid (∀ W, RgAt (w.heap.size + 1) s s1 W → Calls Tryd.prog 115 #[.pointer (some ⟨w.heap.size + 1, 0, none⟩), .int .i64 0, .int .i64 1048576] W (GnPost (w.heap.size + 1) s (p, s2) W)) := Lib.hid fun W h => by
              rw [← hs2]; exact gnumber_all _ s 0 1048576 s1 W h e1.1 hsx (fun _ => by omega)
            have C3 : Hid (∀ W, RgAt (w.heap.size + 1) s s2 W → Calls Tryd.prog 114 #[.pointer (some ⟨w.heap.size + 1, 0, none⟩), .string ⟨#[32, 97, 110, 100, 32]⟩] W (GwPost (w.heap.size + 1) s s3 W)) := Lib.hid fun W h => by
              rw [← hs3]; exact gword_any _ s ⟨#[32, 97, 110, 100, 32]⟩ s2 W h e2.2.1 hsx (by decide)
            have C4 : Hid (∀ W, RgAt (w.heap.size + 1) s s3 W → Calls Tryd.prog 115 #[.pointer (some ⟨w.heap.size + 1, 0, none⟩), .int .i64 p, .int .i64 1048576] W (GnPost (w.heap.size + 1) s (f, s4) W)) := Lib.hid fun W h => by
              rw [← hs4]; exact gnumber_all _ s p 1048576 s3 W h e3.1 hsx (fun h => by omega)
            have C7 : Hid (∀ W x, x = (⟨#[59, 10]⟩ : ByteArray) → RgAt (w.heap.size + 1) s s4 W → Calls Tryd.prog 114 #[.pointer (some ⟨w.heap.size + 1, 0, none⟩), .string x] W (GwPost (w.heap.size + 1) s (a7, b7) W)) := Lib.hid fun W x hx h => by
              subst hx; rw [← hs7]; exact gword_any _ s ⟨#[59, 10]⟩ s4 W h e4.2.1 hsx (by decide)
            have hsm := span_same s.data.toList (a, false) (by rw [HSL.out]; exact Nat.le_of_lt hat)
            rw [hres] at hsm
            simp only at hsm
            have HSM := Lib.hid hsm
            clear hsm
            have HST := Lib.hid (partsN_step (ts := ts) (ss := ss) (byte_at hat))
            have HA7 : Hid (a7 ≤ s.size) := Lib.hid e7.1
            have HMV : Hid (b7 = false → a < a7) := Lib.hid (fun hb => by have := spanF_ok (s := s.data.toList) (st := (a, false)) (by rw [← HSM.out.1]; exact hb) (by rw [HSL.out]; exact Nat.le_of_lt hat); rw [← HSM.out.1] at this; exact this.2.2.1)
            have T0 := Lib.hid (TG.new S.out #[.int .i64 0, .int .i64 0] 49)
            clear hs1 hs2 hs3 hs4 hs7 hres e1 e2 e3 e4 e7 hc1 hc2
            have S1 := S
            clear S
            go_wp2_with fail
            refine (C1.out _ T0.out.pg.rd).mono ?_
            rintro e w1 ⟨⟨y1, rfl⟩, hr, hg⟩
            have T1 := Lib.hid (T0.out.call hr hg)
            clear hr hg T0 r0 r1 r2 d0 d1 S1
            go_wp2_with fail
            refine (C2.out _ T1.out.pg.rd).mono ?_
            rintro e w2 ⟨rfl, hr, hg⟩
            have T2 := Lib.hid (T1.out.call hr hg)
            have c0 := T2.out.cell 0
            have f0 := T2.out.frz 0
            simp at c0
            have T2' := Lib.hid (T2.out.put 0 (.int .i64 p) (set2_0 T2.out.t))
            clear hr hg T1 T2
            go_wp2_with fail
            refine (C3.out _ T2'.out.pg.rd).mono ?_
            rintro e w3 ⟨⟨y3, rfl⟩, hr, hg⟩
            have T3 := Lib.hid (T2'.out.call hr hg)
            have d0 := T3.out.cell 0
            simp at d0
            clear hr hg T2' c0 f0
            go_wp2_with fail
            refine (C4.out _ T3.out.pg.rd).mono ?_
            rintro e w4 ⟨rfl, hr, hg⟩
            have T4 := Lib.hid (T3.out.call hr hg)
            have c1 := T4.out.cell 1
            have f1 := T4.out.frz 1
            simp at c1
            have T4' := Lib.hid (T4.out.put 1 (.int .i64 f) (set2_1 T4.out.t))
            clear hr hg T3 T4 d0
            have hcv : ((w4.setCell ⟨wr.heap.size, 1, none⟩ (.int .i64 f)).alloc (.cells #[.int .u8 10] 5)).cell? ⟨w4.heap.size, 0, none⟩ = some (.int .u8 10) := by simp [go_sem]
            have T7 := Lib.hid (T4'.out.alloc (.cells #[.int .u8 10] 5))
            clear T4'
            go_wp2_with fail
            rw [newline_conv hcv]
            simp only [Result.andThen]
            rw [Oper.upon_value]
            go_wp2_with fail
            refine (C7.out _ _ (by first | rfl | exact ByteArray.mk_append_mk [59] [10] | decide) T7.out.pg.rd).mono ?_
            rintro e w7 ⟨⟨y7, rfl⟩, hr, hg⟩
            have T8 := Lib.hid (T7.out.call hr hg)
            have c1' := T8.out.pg.c1
            have f1' := T8.out.pg.f 1
            have g0 := T8.out.cell 0
            have g1 := T8.out.cell 1
            simp at g0 g1
            clear hr hg T7 hcv
            go_wp2_with (at_builtin; refine wpList_append_own _ rfl _ _ 23 rfl (w.heap.size + 3) 49 iS (.agg #[.int .i64 0, .int .i64 0]) 2 16 Tryd.underlying23 hiS hzS0 hzS1 hzS2 rfl (by decide) _ ss.length _ rfl (T8.out.alloc (.cells #[.int .i64 p, .int .i64 f] 49)).pg.os ⟨w7.heap.size, 0, none⟩ 1 1 [.int .i64 p, .int .i64 f] rfl rfl ?c1 ?c2 ?c3 ?c4 ?c5 ?_)
            case c1 => exact cells2_new _ _ _ _
            case c2 => exact one2 _ _
            case c3 => have := HG3.out.2.1; unfold maxLen; omega
            case c4 => have := HG3.out.2.1; omega
            case c5 => have := T8.out.pg.siz; simp <;> omega
            intro v' w8 hown hgrow _
            obtain ⟨g', cap', rfl⟩ := ownsRow_succ hown
            have N := Lib.hid ((T8.out.alloc (.cells #[.int .i64 p, .int .i64 f] 49)).pg.span (x := (p, f)) hgrow hown)
            have d50 : w8.cell? ⟨w.heap.size + 1 + 1, 1, none⟩ = some (.slice A1 ss.length k1) := (GrownL.of_row hgrow).cell (T8.out.alloc (.cells #[.int .i64 p, .int .i64 f] 49)).pg.c1 (fun hm => by have := (World.ownsRow.lt (T8.out.alloc (.cells #[.int .i64 p, .int .i64 f] 49)).pg.os _ (by simpa using hm)).1; omega)
            have g50 : w8.frozen? ⟨w.heap.size + 1 + 1, 1, none⟩ = false := heap_frozen (((GrownL.of_row hgrow).block _ (by have := (T8.out.alloc (.cells #[.int .i64 p, .int .i64 f] 49)).pg.siz; omega) (fun hm => by have := (World.ownsRow.lt (T8.out.alloc (.cells #[.int .i64 p, .int .i64 f] 49)).pg.os _ (by simpa using hm)).1; omega)).trans (T8.out.alloc (.cells #[.int .i64 p, .int .i64 f] 49)).pg.set) 1
            clear hown hgrow T8 g0 g1 c1' f1'
            go_wp2_with fail
            obtain ⟨m1, m2, m3⟩ := HG3.out
            cases b7
            · have hst := HST.out
              rw [if_neg HCD.out, ← HSM.out.1] at hst
              rw [if_neg (by intro h; cases h)] at hst
              rw [← HSM.out.2 (by rw [← HSM.out.1])] at hst
              have hmv := HMV.out rfl
              have ha7 := HA7.out
              go_roundg (s.size - a7)
              case measure => omega
              case rel => exact ⟨_, _, ts, ss ++ [(p, f)], a7, false, ha7, fun _ => ⟨by omega, by simp only [List.length_append, List.length_cons, List.length_nil]; omega, hst.symm.trans m3⟩, (fun h => by cases h), N.out⟩
            · have hst := HST.out
              rw [if_neg HCD.out, ← HSM.out.1] at hst
              rw [if_pos rfl] at hst
              have ha7 := HA7.out
              go_roundg 0
              case measure => omega
              case rel => exact ⟨_, _, ts, ss ++ [(p, f)], a7, true, ha7, (fun h => by cases h), fun _ => by rw [← m3, hst], N.out⟩
        · have HCD : Hid (¬ ((s[a]'hat).toNat = 101 ∧ ss.length = 0)) := Lib.hid (fun h => hc1 h.1)
          have hb' : (((s[a]'hat).toNat : Int) == 101) = false := beq_eq_false_iff_ne.2 (by omega)
          obtain ⟨s1, hs1⟩ : ∃ q, wordF s.data.toList wBetween (a, false) = q := ⟨_, rfl⟩
          obtain ⟨⟨p, s2⟩, hs2⟩ : ∃ q, numG s.data.toList 0 1048576 s1 = q := ⟨_, rfl⟩
          obtain ⟨s3, hs3⟩ : ∃ q, wordF s.data.toList wAnd s2 = q := ⟨_, rfl⟩
          obtain ⟨⟨f, s4⟩, hs4⟩ : ∃ q, numG s.data.toList p 1048576 s3 = q := ⟨_, rfl⟩
          obtain ⟨⟨a7, b7⟩, hs7⟩ : ∃ q, wordF s.data.toList wEnd s4 = q := ⟨_, rfl⟩
          have hres : spanG s.data.toList (a, false) = ((p, f), (a7, b7)) := by simp only [spanG, hs1, hs2, hs3, hs4, hs7]
          have e1 := wordF_le s.data.toList wBetween (a, false) (by rw [HSL.out]; exact Nat.le_of_lt hat)
          rw [hs1, HSL.out] at e1
          have e2 := numG_cases s.data.toList 0 1048576 s1 (by rw [HSL.out]; exact e1.1)
          rw [hs2, HSL.out] at e2
          simp only at e2
          have e3 := wordF_le s.data.toList wAnd s2 (by rw [HSL.out]; exact e2.2.1)
          rw [hs3, HSL.out] at e3
          have e4 := numG_cases s.data.toList p 1048576 s3 (by rw [HSL.out]; exact e3.1)
          rw [hs4, HSL.out] at e4
          simp only at e4
          have e7 := wordF_le s.data.toList wEnd s4 (by rw [HSL.out]; exact e4.2.1)
          rw [hs7, HSL.out] at e7
          simp only at e7
          have hp0 : 0 ≤ p := by omega
          have hp1 : p ≤ 1048576 := by omega
          have C1 : Hid (∀ W, RgAt (w.heap.size + 1) s (a, false) W → Calls Tryd.prog 114 #[.pointer (some ⟨w.heap.size + 1, 0, none⟩), .string ⟨#[98, 101, 116, 119, 101, 101, 110, 32]⟩] W (GwPost (w.heap.size + 1) s s1 W)) := Lib.hid fun W h => by
            rw [← hs1]; exact gword_any _ s ⟨#[98, 101, 116, 119, 101, 101, 110, 32]⟩ (a, false) W h (Nat.le_of_lt hat) hsx (by decide)
          have C2 : Hid (∀ W, RgAt (w.heap.size + 1) s s1 W → Calls Tryd.prog 115 #[.pointer (some ⟨w.heap.size + 1, 0, none⟩), .int .i64 0, .int .i64 1048576] W (GnPost (w.heap.size + 1) s (p, s2) W)) := Lib.hid fun W h => by
            rw [← hs2]; exact gnumber_all _ s 0 1048576 s1 W h e1.1 hsx (fun _ => by omega)
          have C3 : Hid (∀ W, RgAt (w.heap.size + 1) s s2 W → Calls Tryd.prog 114 #[.pointer (some ⟨w.heap.size + 1, 0, none⟩), .string ⟨#[32, 97, 110, 100, 32]⟩] W (GwPost (w.heap.size + 1) s s3 W)) := Lib.hid fun W h => by
            rw [← hs3]; exact gword_any _ s ⟨#[32, 97, 110, 100, 32]⟩ s2 W h e2.2.1 hsx (by decide)
          have C4 : Hid (∀ W, RgAt (w.heap.size + 1) s s3 W → Calls Tryd.prog 115 #[.pointer (some ⟨w.heap.size + 1, 0, none⟩), .int .i64 p, .int .i64 1048576] W (GnPost (w.heap.size + 1) s (f, s4) W)) := Lib.hid fun W h => by
            rw [← hs4]; exact gnumber_all _ s p 1048576 s3 W h e3.1 hsx (fun h => by omega)
          have C7 : Hid (∀ W x, x = (⟨#[59, 10]⟩ : ByteArray) → RgAt (w.heap.size + 1) s s4 W → Calls Tryd.prog 114 #[.pointer (some ⟨w.heap.size + 1, 0, none⟩), .string x] W (GwPost (w.heap.size + 1) s (a7, b7) W)) := Lib.hid fun W x hx h => by
            subst hx; rw [← hs7]; exact gword_any _ s ⟨#[59, 10]⟩ s4 W h e4.2.1 hsx (by decide)
          have hsm := span_same s.data.toList (a, false) (by rw [HSL.out]; exact Nat.le_of_lt hat)
          rw [hres] at hsm
          simp only at hsm
          have HSM := Lib.hid hsm
          clear hsm
          have HST := Lib.hid (partsN_step (ts := ts) (ss := ss) (byte_at hat))
          have HA7 : Hid (a7 ≤ s.size) := Lib.hid e7.1
          have HMV : Hid (b7 = false → a < a7) := Lib.hid (fun hb => by have := spanF_ok (s := s.data.toList) (st := (a, false)) (by rw [← HSM.out.1]; exact hb) (by rw [HSL.out]; exact Nat.le_of_lt hat); rw [← HSM.out.1] at this; exact this.2.2.1)
          have T0 := Lib.hid (TG.new S.out #[.int .i64 0, .int .i64 0] 49)
          clear hs1 hs2 hs3 hs4 hs7 hres e1 e2 e3 e4 e7 hc1
          have S1 := S
          clear S
          go_wp2_with fail
          refine (C1.out _ T0.out.pg.rd).mono ?_
          rintro e w1 ⟨⟨y1, rfl⟩, hr, hg⟩
          have T1 := Lib.hid (T0.out.call hr hg)
          clear hr hg T0 r0 r1 r2 d0 d1 S1
          go_wp2_with fail
          refine (C2.out _ T1.out.pg.rd).mono ?_
          rintro e w2 ⟨rfl, hr, hg⟩
          have T2 := Lib.hid (T1.out.call hr hg)
          have c0 := T2.out.cell 0
          have f0 := T2.out.frz 0
          simp at c0
          have T2' := Lib.hid (T2.out.put 0 (.int .i64 p) (set2_0 T2.out.t))
          clear hr hg T1 T2
          go_wp2_with fail
          refine (C3.out _ T2'.out.pg.rd).mono ?_
          rintro e w3 ⟨⟨y3, rfl⟩, hr, hg⟩
          have T3 := Lib.hid (T2'.out.call hr hg)
          have d0 := T3.out.cell 0
          simp at d0
          clear hr hg T2' c0 f0
          go_wp2_with fail
          refine (C4.out _ T3.out.pg.rd).mono ?_
          rintro e w4 ⟨rfl, hr, hg⟩
          have T4 := Lib.hid (T3.out.call hr hg)
          have c1 := T4.out.cell 1
          have f1 := T4.out.frz 1
          simp at c1
          have T4' := Lib.hid (T4.out.put 1 (.int .i64 f) (set2_1 T4.out.t))
          clear hr hg T3 T4 d0
          have hcv : ((w4.setCell ⟨wr.heap.size, 1, none⟩ (.int .i64 f)).alloc (.cells #[.int .u8 10] 5)).cell? ⟨w4.heap.size, 0, none⟩ = some (.int .u8 10) := by simp [go_sem]
          have T7 := Lib.hid (T4'.out.alloc (.cells #[.int .u8 10] 5))
          clear T4'
          go_wp2_with fail
          rw [newline_conv hcv]
          simp only [Result.andThen]
          rw [Oper.upon_value]
          go_wp2_with fail
          refine (C7.out _ _ (by first | rfl | exact ByteArray.mk_append_mk [59] [10] | decide) T7.out.pg.rd).mono ?_
          rintro e w7 ⟨⟨y7, rfl⟩, hr, hg⟩
          have T8 := Lib.hid (T7.out.call hr hg)
          have c1' := T8.out.pg.c1
          have f1' := T8.out.pg.f 1
          have g0 := T8.out.cell 0
          have g1 := T8.out.cell 1
          simp at g0 g1
          clear hr hg T7 hcv
          go_wp2_with (at_builtin; refine wpList_append_own _ rfl _ _ 23 rfl (w.heap.size + 3) 49 iS (.agg #[.int .i64 0, .int .i64 0]) 2 16 Tryd.underlying23 hiS hzS0 hzS1 hzS2 rfl (by decide) _ ss.length _ rfl (T8.out.alloc (.cells #[.int .i64 p, .int .i64 f] 49)).pg.os ⟨w7.heap.size, 0, none⟩ 1 1 [.int .i64 p, .int .i64 f] rfl rfl ?c1 ?c2 ?c3 ?c4 ?c5 ?_)
          case c1 => exact cells2_new _ _ _ _
          case c2 => exact one2 _ _
          case c3 => have := HG3.out.2.1; unfold maxLen; omega
          case c4 => have := HG3.out.2.1; omega
          case c5 => have := T8.out.pg.siz; simp <;> omega
          intro v' w8 hown hgrow _
          obtain ⟨g', cap', rfl⟩ := ownsRow_succ hown
          have N := Lib.hid ((T8.out.alloc (.cells #[.int .i64 p, .int .i64 f] 49)).pg.span (x := (p, f)) hgrow hown)
          have d50 : w8.cell? ⟨w.heap.size + 1 + 1, 1, none⟩ = some (.slice A1 ss.length k1) := (GrownL.of_row hgrow).cell (T8.out.alloc (.cells #[.int .i64 p, .int .i64 f] 49)).pg.c1 (fun hm => by have := (World.ownsRow.lt (T8.out.alloc (.cells #[.int .i64 p, .int .i64 f] 49)).pg.os _ (by simpa using hm)).1; omega)
          have g50 : w8.frozen? ⟨w.heap.size + 1 + 1, 1, none⟩ = false := heap_frozen (((GrownL.of_row hgrow).block _ (by have := (T8.out.alloc (.cells #[.int .i64 p, .int .i64 f] 49)).pg.siz; omega) (fun hm => by have := (World.ownsRow.lt (T8.out.alloc (.cells #[.int .i64 p, .int .i64 f] 49)).pg.os _ (by simpa using hm)).1; omega)).trans (T8.out.alloc (.cells #[.int .i64 p, .int .i64 f] 49)).pg.set) 1
          clear hown hgrow T8 g0 g1 c1' f1'
          go_wp2_with fail
          obtain ⟨m1, m2, m3⟩ := HG3.out
          cases b7
          · have hst := HST.out
            rw [if_neg HCD.out, ← HSM.out.1] at hst
            rw [if_neg (by intro h; cases h)] at hst
            rw [← HSM.out.2 (by rw [← HSM.out.1])] at hst
            have hmv := HMV.out rfl
            have ha7 := HA7.out
            go_roundg (s.size - a7)
            case measure => omega
            case rel => exact ⟨_, _, ts, ss ++ [(p, f)], a7, false, ha7, fun _ => ⟨by omega, by simp only [List.length_append, List.length_cons, List.length_nil]; omega, hst.symm.trans m3⟩, (fun h => by cases h), N.out⟩
          · have hst := HST.out
            rw [if_neg HCD.out, ← HSM.out.1] at hst
            rw [if_pos rfl] at hst
            have ha7 := HA7.out
            go_roundg 0
            case measure => omega
            case rel => exact ⟨_, _, ts, ss ++ [(p, f)], a7, true, ha7, (fun h => by cases h), fun _ => by rw [← m3, hst], N.out⟩
      · have hati : (s.size : Int) ≤ (a : Int) := by omega
        have HE : Hid (partsN s.data.toList [] [] 0 = (ts, ss, a, false)) := Lib.hid (HG3.out.2.2.symm.trans (partsN_end (by rw [HSL.out]; omega)))
        have hl3 : ts.length ≤ 3000 ∧ ss.length ≤ 3000 := by have := HG3.out.2.1; omega
        have hbig : 24 < (ts.length : Int) ∨ ((ts.length : Int) ≤ 24 ∧ 40 < (ss.length : Int)) ∨ ((ts.length : Int) ≤ 24 ∧ (ss.length : Int) ≤ 40) := by omega
        rcases hbig with hbig | ⟨hb1, hb2⟩ | ⟨hb1, hb2⟩
        · have HB : Hid (parseF s.data.toList = (([], []), 2, 0)) := Lib.hid (by
            unfold parseF
            rw [if_neg (by rw [HSL.out]; omega), HE.out]
            simp only [Bool.false_eq_true, if_false]
            rw [if_pos (by omega)])
          obtain ⟨e0, e1, e2, e3⟩ := S.out.r
          have f0 := S.out.rf 0
          have f1 := S.out.rf 1
          have f2 := S.out.rf 2
          have f3 := S.out.rf 3
          go_wp2_with fail
          obtain ⟨q0, q1, q2, q3⟩ := Set4.cells (x' := .slice none 0 0) (y' := .slice none 0 0) (z' := .int .i64 2) (u' := .int .i64 0) S.out.res
          unfold Set4 at q0 q1 q2 q3
          refine bodyPost_ret (v := .agg #[.slice none 0 0, .slice none 0 0, .int .i64 2, .int .i64 0]) (by simp [results, Tryd.results54, go_sem, q0, q1, q2, q3]) rfl ⟨_, _, _, _, _, _, [], [], 2, 0, rfl, HB.out, rm_nil' _ _, ?_⟩
          exact S.out.bel.trans ((Set4.grown wr w.heap.size (.slice none 0 0) (.slice none 0 0) (.int .i64 2) (.int .i64 0)).below (fun b hm => by simp at hm; omega) (by have := S.out.siz; omega))
        · have HB : Hid (parseF s.data.toList = (([], []), 2, 0)) := Lib.hid (by
            unfold parseF
            rw [if_neg (by rw [HSL.out]; omega), HE.out]
            simp only [Bool.false_eq_true, if_false]
            rw [if_pos (by omega)])
          obtain ⟨e0, e1, e2, e3⟩ := S.out.r
          have f0 := S.out.rf 0
          have f1 := S.out.rf 1
          have f2 := S.out.rf 2
          have f3 := S.out.rf 3
          go_wp2_with fail
          obtain ⟨q0, q1, q2, q3⟩ := Set4.cells (x' := .slice none 0 0) (y' := .slice none 0 0) (z' := .int .i64 2) (u' := .int .i64 0) S.out.res
          unfold Set4 at q0 q1 q2 q3
          refine bodyPost_ret (v := .agg #[.slice none 0 0, .slice none 0 0, .int .i64 2, .int .i64 0]) (by simp [results, Tryd.results54, go_sem, q0, q1, q2, q3]) rfl ⟨_, _, _, _, _, _, [], [], 2, 0, rfl, HB.out, rm_nil' _ _, ?_⟩
          exact S.out.bel.trans ((Set4.grown wr w.heap.size (.slice none 0 0) (.slice none 0 0) (.int .i64 2) (.int .i64 0)).below (fun b hm => by simp at hm; omega) (by have := S.out.siz; omega))
        · have HB : Hid (parseF s.data.toList = ((ts, ss), 0, 0)) := Lib.hid (by
            unfold parseF
            rw [if_neg (by rw [HSL.out]; omega), HE.out]
            simp only [Bool.false_eq_true, if_false]
            rw [if_neg (by omega)])
          have gR := Set4.grown wr w.heap.size (.slice A0 ts.length k0) (.slice A1 ss.length k1) (.int .i64 0) (.int .i64 0)
          have HRM : Hid (RM (Set4 wr w.heap.size (.slice A0 ts.length k0) (.slice A1 ss.length k1) (.int .i64 0) (.int .i64 0)).heap.size (.agg #[.slice A0 ts.length k0, .slice A1 ss.length k1]) ts ss (Set4 wr w.heap.size (.slice A0 ts.length k0) (.slice A1 ss.length k1) (.int .i64 0) (.int .i64 0))) := Lib.hid ⟨_, _, _, _, _, _, rfl, rt_of_row (ownsRow_grownL S.out.ot gR (fun g e hm => by have := (World.ownsRow.lt S.out.ot g e).1; simp at hm; omega)) (by omega), rs_of_row (ownsRow_grownL S.out.os gR (fun g e hm => by have := (World.ownsRow.lt S.out.os g e).1; simp at hm; omega)) (by omega)⟩
          clear gR
          obtain ⟨e0, e1, e2, e3⟩ := S.out.r
          have f0 := S.out.rf 0
          have f1 := S.out.rf 1
          have f2 := S.out.rf 2
          have f3 := S.out.rf 3
          go_wp2_with fail
          obtain ⟨q0, q1, q2, q3⟩ := Set4.cells (x' := .slice A0 ts.length k0) (y' := .slice A1 ss.length k1) (z' := .int .i64 0) (u' := .int .i64 0) S.out.res
          unfold Set4 at q0 q1 q2 q3
          refine bodyPost_ret (v := .agg #[.slice A0 ts.length k0, .slice A1 ss.length k1, .int .i64 0, .int .i64 0]) (by simp [results, Tryd.results54, go_sem, q0, q1, q2, q3]) rfl ⟨_, _, _, _, _, _, ts, ss, 0, 0, rfl, HB.out, HRM.out, ?_⟩
          exact S.out.bel.trans ((Set4.grown wr w.heap.size (.slice A0 ts.length k0) (.slice A1 ss.length k1) (.int .i64 0) (.int .i64 0)).below (fun b hm => by simp at hm; omega) (by have := S.out.siz; omega))
    · have HB : Hid (parseF s.data.toList = (([], []), 7, a)) := Lib.hid (by
        have e := HBD.out rfl
        unfold parseF
        rw [if_neg (by rw [HSL.out]; omega), e]
        simp only [if_true])
      obtain ⟨e0, e1, e2, e3⟩ := S.out.r
      have f0 := S.out.rf 0
      have f1 := S.out.rf 1
      have f2 := S.out.rf 2
      have f3 := S.out.rf 3
      go_wp2_with fail
      obtain ⟨q0, q1, q2, q3⟩ := Set4.cells (x' := .slice none 0 0) (y' := .slice none 0 0) (z' := .int .i64 7) (u' := .int .i64 a) S.out.res
      unfold Set4 at q0 q1 q2 q3
      refine bodyPost_ret (v := .agg #[.slice none 0 0, .slice none 0 0, .int .i64 7, .int .i64 a]) (by simp [results, Tryd.results54, go_sem, q0, q1, q2, q3]) rfl ⟨_, _, _, _, _, _, [], [], 7, a, rfl, HB.out, rm_nil' _ _, ?_⟩
      exact S.out.bel.trans ((Set4.grown wr w.heap.size (.slice none 0 0) (.slice none 0 0) (.int .i64 7) (.int .i64 a)).below (fun b hm => by simp at hm; omega) (by have := S.out.siz; omega))
end Go.Proofs.YtlhgpeelenelbaaDoor

/- The law TurnTexts, its calls met by their contracts. -/
namespace Go.Proofs.YtlhgpeelenelbaaDoor
open Go.RowKit

set_option maxHeartbeats 2000000 in
set_option maxRecDepth 100000 in
theorem rprint_err (v : Value) (ts : List T3) (ss : List S2) (c : Int) (w : World) (h : RM w.heap.size v ts ss w) (hc : CheckIs ts ss c) (h0 : c ≠ 0) :
    Calls Tryd.prog 52 #[v] w fun e w' => e = .returned (.tuple #[.string ⟨#[]⟩, .int .i64 c]) ∧ Below w.heap.size w w' := by
  obtain ⟨A, m, ca, A', m', ca', rfl, r1, r2⟩ := h
  have C := Lib.hid fun W (S : NSd w (.slice A m ca) (.slice A' m' ca') W) => rcheck_any _ _ ts ss c W (r1.up S.siz S.bel) (r2.up S.siz S.bel) hc
  have S0 := Lib.hid (NSd.new (w := w) (v0 := .slice A m ca) (v1 := .slice A' m' ca') 25)
  have hb0 : (c != 0) = true := by rw [bne_iff_ne]; exact h0
  clear r1 r2 hc h0
  go_enter Tryd.func52, Tryd.ntmps52
  obtain ⟨t0, t1, t2, _⟩ := S0.out.out
  go_wp2_with fail
  refine (C.out _ S0.out).mono ?_
  rintro e w1 ⟨rfl, h1⟩
  have S := Lib.hid (S0.out.below h1)
  clear h1 S0 t0 t1 t2
  go_wp2_with fail
  go_ret2
  exact ⟨rfl, S.out.bel⟩
theorem rprint_any (v : Value) (ts : List T3) (ss : List S2) (c : Int) (w : World) (h : RM w.heap.size v ts ss w) (hc : CheckIs ts ss c) :
    Calls Tryd.prog 52 #[v] w fun e w' => e = .returned (.tuple #[.string ⟨(textOf c ts ss).toArray⟩, .int .i64 c]) ∧ Below w.heap.size w w' := by
  by_cases h0 : c = 0
  · subst h0
    exact rprint_ok v ts ss w h hc
  · have e : textOf c ts ss = [] := by unfold textOf; rw [if_neg h0]
    rw [e]
    exact rprint_err v ts ss c w h hc h0
theorem rparse_is {s : ByteArray} {ts : List T3} {ss : List S2} {d : Int} {m : Nat} (h : parseF s.data.toList = ((ts, ss), d, m)) (W : World) : Calls Tryd.prog 54 #[.string s] W fun e w' => ∃ X nx cx Y ny cy, e = .returned (.agg #[.slice X nx cx, .slice Y ny cy, .int .i64 d, .int .i64 m]) ∧ RM w'.heap.size (.agg #[.slice X nx cx, .slice Y ny cy]) ts ss w' ∧ Below W.heap.size W w' := by
  refine (rparse_any s W).mono ?_
  rintro e w' ⟨X, nx, cx, Y, ny, cy, ts', ss', d', m', rfl, hp, hr, hb⟩
  rw [h] at hp
  simp only [Prod.mk.injEq] at hp
  obtain ⟨⟨rfl, rfl⟩, rfl, rfl⟩ := hp
  exact ⟨X, nx, cx, Y, ny, cy, rfl, hr, hb⟩
/-- A block of four cells. -/
def Quad (b : Nat) (x y z u : Value) (W : World) : Prop := W.cell? ⟨b, 0, none⟩ = some x ∧ W.cell? ⟨b, 1, none⟩ = some y ∧ W.cell? ⟨b, 2, none⟩ = some z ∧ W.cell? ⟨b, 3, none⟩ = some u ∧ b < W.heap.size
theorem Quad.out {b : Nat} {x y z u : Value} {W : World} (h : Quad b x y z u W) : W.cell? ⟨b, 0, none⟩ = some x ∧ W.cell? ⟨b, 1, none⟩ = some y ∧ W.cell? ⟨b, 2, none⟩ = some z ∧ W.cell? ⟨b, 3, none⟩ = some u ∧ b < W.heap.size := h
theorem Quad.below {b : Nat} {x y z u : Value} {W W' : World} (h : Quad b x y z u W) (hb : Below W.heap.size W W') : Quad b x y z u W' := by
  obtain ⟨h0, h1, h2, h3, hl⟩ := h
  exact ⟨below_cell_of hb h0, below_cell_of hb h1, below_cell_of hb h2, below_cell_of hb h3, Nat.lt_of_lt_of_le hl hb.size⟩
theorem Quad.new {W : World} {x y z u : Value} (t : TypeId) : Quad W.heap.size x y z u (W.alloc (.cells #[x, y, z, u] t)) := ⟨by simp [go_sem], by simp [go_sem], by simp [go_sem], by simp [go_sem], by simp⟩

set_option maxHeartbeats 4000000 in
set_option maxRecDepth 100000 in
theorem texts_no (hsan : ∀ W, Calls Tryd.prog 16 #[] W fun e w' => e = .returned (.bool true) ∧ Below W.heap.size W w') (A A' : Option Addr) (k c k' c' : Nat) (s : ByteArray) (w : World) (hn : 30 < k ∨ 50 < k' ∨ 3200 < s.size) :
    Calls Tryd.prog 9 #[.agg #[.slice A k c, .slice A' k' c'], .string s] w fun e w' => e = .returned (.bool true) ∧ Below w.heap.size w w' := by
  have HS := Lib.hid hsan
  have S0 := Lib.hid (NSd.new (w := w) (v0 := .slice A k c) (v1 := .slice A' k' c') 25)
  have h1 : 30 < (k : Int) ∨ ((k : Int) ≤ 30 ∧ 50 < (k' : Int)) ∨ ((k : Int) ≤ 30 ∧ (k' : Int) ≤ 50 ∧ 3200 < (s.size : Int)) := by omega
  clear hsan hn
  rcases h1 with h1 | ⟨h1, h2⟩ | ⟨h1, h2, h3⟩
  all_goals
    go_enter Tryd.func9, Tryd.ntmps9
    go_wp2_with fail
    refine (HS.out _).mono ?_
    rintro e w2 ⟨rfl, h9⟩
    have S := Lib.hid (S0.out.below h9)
    clear h9
    go_wp2_with fail
    go_ret
    exact ⟨rfl, S.out.bel⟩

set_option maxHeartbeats 16000000 in
set_option maxRecDepth 100000 in
theorem texts_yes (hsan : ∀ W, Calls Tryd.prog 16 #[] W fun e w' => e = .returned (.bool true) ∧ Below W.heap.size W w') (A A' : Option Addr) (k c k' c' : Nat) (ts : List T3) (ss : List S2) (s : ByteArray) (w : World) (h : RM w.heap.size (.agg #[.slice A k c, .slice A' k' c']) ts ss w) (ht : Tab w) (h1 : (k : Int) ≤ 30) (h2 : (k' : Int) ≤ 50) (h3 : (s.size : Int) ≤ 3200) :
    Calls Tryd.prog 9 #[.agg #[.slice A k c, .slice A' k' c'], .string s] w fun e w' => e = .returned (.bool true) ∧ Below w.heap.size w w' := by
  obtain ⟨ck, hc⟩ := CheckIs.exists_ ts ss
  have HS := Lib.hid hsan
  have S0 := Lib.hid (NSd.new (w := w) (v0 := .slice A k c) (v1 := .slice A' k' c') 25)
  have CP : Hid (∀ W, NSd w (.slice A k c) (.slice A' k' c') W → Calls Tryd.prog 51 #[.agg #[.slice A k c, .slice A' k' c']] W fun e w' => e = .returned (.tuple #[.string ⟨(textOf ck ts ss).toArray⟩, .int .i64 ck]) ∧ Below W.heap.size W w') := Lib.hid fun W S => print_any _ ts ss ck W (h.up S.siz S.bel) hc (tab_below ht S.bel)
  have CR : Hid (∀ W, NSd w (.slice A k c) (.slice A' k' c') W → Calls Tryd.prog 52 #[.agg #[.slice A k c, .slice A' k' c']] W fun e w' => e = .returned (.tuple #[.string ⟨(textOf ck ts ss).toArray⟩, .int .i64 ck]) ∧ Below W.heap.size W w') := Lib.hid fun W S => rprint_any _ ts ss ck W (h.up S.siz S.bel) hc
  obtain ⟨tx, htx⟩ : ∃ tx : ByteArray, (⟨(textOf ck ts ss).toArray⟩ : ByteArray) = tx := ⟨_, rfl⟩
  rw [htx] at CP CR
  obtain ⟨⟨⟨ts2, ss2⟩, d, m⟩, hp⟩ : ∃ q, parseF s.data.toList = q := ⟨_, rfl⟩
  have CT := Lib.hid fun W => parse_is hp W
  have CQ := Lib.hid fun W => rparse_is hp W
  clear hsan h ht hc hp htx
  go_enter Tryd.func9, Tryd.ntmps9
  obtain ⟨t0, t1, t2, _⟩ := S0.out.out
  go_wp2_with fail
  refine (CP.out _ S0.out).mono ?_
  rintro e w1 ⟨rfl, h9⟩
  have S := Lib.hid (S0.out.below h9)
  clear h9 S0 CP t0 t1 t2
  obtain ⟨t0, t1, t2, _⟩ := S.out.out
  go_wp2_with fail
  refine (CR.out _ S.out).mono ?_
  rintro e w2 ⟨rfl, h9⟩
  have S := Lib.hid (S.out.below h9)
  clear h9 CR t0 t1 t2
  go_wp2_with fail
  refine (CT.out _).mono ?_
  rintro e w3 ⟨X, nx, cx, Y, ny, cy, rfl, hr, h9⟩
  have ba := (Below.refl w3.heap.size w3).alloc (Nat.le_refl _) (.cells #[.slice X nx cx, .slice Y ny cy] 25)
  have S := Lib.hid ((S.out.below h9).below ba)
  have T5 := Lib.hid (Two.new (W := w3) (x := .slice X nx cx) (y := .slice Y ny cy) 25)
  have R1 := Lib.hid (hr.up ba.size ba)
  clear h9 ba hr CT
  go_wp2_with fail
  refine (CQ.out _).mono ?_
  rintro e w4 ⟨X2, nx2, cx2, Y2, ny2, cy2, rfl, hr, h9⟩
  have ba := (Below.refl w4.heap.size w4).alloc (Nat.le_refl _) (.cells #[.slice X2 nx2 cx2, .slice Y2 ny2 cy2, .int .i64 d, .int .i64 m] 75)
  have S := Lib.hid ((S.out.below h9).below ba)
  have T5 := Lib.hid ((T5.out.below h9).below ba)
  have R1 := Lib.hid ((R1.out.up h9.size h9).up ba.size ba)
  have T8 := Lib.hid (Quad.new (W := w4) (x := .slice X2 nx2 cx2) (y := .slice Y2 ny2 cy2) (z := .int .i64 d) (u := .int .i64 m) 75)
  have R2 := Lib.hid (hr.up ba.size ba)
  clear h9 ba hr CQ
  go_wp2_with fail
  refine (HS.out _).mono ?_
  rintro e w5 ⟨rfl, h9⟩
  have S := Lib.hid (S.out.below h9)
  have T5 := Lib.hid (T5.out.below h9)
  have T8 := Lib.hid (T8.out.below h9)
  have R1 := Lib.hid (R1.out.up h9.size h9)
  have R2 := Lib.hid (R2.out.up h9.size h9)
  clear h9
  obtain ⟨b0, b1, _⟩ := T5.out
  obtain ⟨c0, c1, c2, c3, _⟩ := T8.out.out
  go_wp2_with fail
  refine (sameSet_eq _ _ ts2 ss2 _ R1.out R2.out).mono ?_
  rintro e w6 ⟨rfl, h9⟩
  have S := Lib.hid (S.out.below h9)
  have T8 := Lib.hid (T8.out.below h9)
  clear h9 b0 b1 c0 c1 c2 c3 R1 R2 T5
  obtain ⟨c0, c1, c2, c3, _⟩ := T8.out.out
  go_wp2_with fail
  go_ret
  exact ⟨by simp, S.out.bel⟩

theorem turnTexts_calls (hsan : ∀ W, Calls Tryd.prog 16 #[] W fun e w' => e = .returned (.bool true) ∧ Below W.heap.size W w') (A : Option Addr) (k c : Nat) (A' : Option Addr) (k' c' : Nat) (s : ByteArray) (w : World) (ho : k ≤ 1000000000000 → k' ≤ 1000000000000 → ∃ ts ss, RM w.heap.size (.agg #[.slice A k c, .slice A' k' c']) ts ss w) (ht : Tab w) :
    Calls Tryd.prog 9 #[.agg #[.slice A k c, .slice A' k' c'], .string s] w fun e w' => e = .returned (.bool true) ∧ Below w.heap.size w w' := by
  by_cases hn : 30 < k ∨ 50 < k' ∨ 3200 < s.size
  · exact texts_no hsan A A' k c k' c' s w hn
  · obtain ⟨ts, ss, h⟩ := ho (by omega) (by omega)
    exact texts_yes hsan A A' k c k' c' ts ss s w h ht (by omega) (by omega) (by omega)
end Go.Proofs.YtlhgpeelenelbaaDoor
