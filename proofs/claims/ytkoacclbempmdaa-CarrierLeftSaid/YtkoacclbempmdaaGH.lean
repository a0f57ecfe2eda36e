/- The first outlet with a number: contracts of the specification's feeder and index. -/
import Derived.Test.YtkoacclbempmdaaGG
namespace Go.Proofs.Ytkoacclbempmdaa
open Go.RowKit

/-- The first index whose element has a number, or -1. -/
def FstIs {α : Type} (f : α → Int) (l : List α) (x r : Int) : Prop := (∃ (i : Nat) (p : α), l[i]? = some p ∧ f p = x ∧ (∀ (j : Nat) o, j < i → l[j]? = some o → f o ≠ x) ∧ r = i) ∨ ((∀ (j : Nat) o, l[j]? = some o → f o ≠ x) ∧ r = -1)
theorem FstIs.at_ {α : Type} {f : α → Int} {l : List α} {x r : Int} {i : Nat} {p : α} (h : FstIs f l x r) (hn : ∀ (j : Nat) o, j < i → l[j]? = some o → f o ≠ x) (hp : l[i]? = some p) (he : f p = x) : r = i := by
 rcases h with ⟨j, q, hq, hf, hl, rfl⟩ | ⟨h, _⟩
 ·rcases Nat.lt_trichotomy i j with h | rfl | h
  ·exact absurd he (hl i p h hp)
  ·rfl
  ·exact absurd hf (hn j q h hq)
 ·exact absurd he (h i p hp)
theorem FstIs.none_ {α : Type} {f : α → Int} {l : List α} {x r : Int} (h : FstIs f l x r) (hn : ∀ (j : Nat) o, l[j]? = some o → f o ≠ x) : r = -1 := by
 rcases h with ⟨j, q, hq, hf, _, _⟩ | ⟨_, h⟩
 ·exact absurd hf (hn j q hq)
 ·exact h
theorem FstIs.exists_ {α : Type} (f : α → Int) (l : List α) (x : Int) : ∃ r, FstIs f l x r := by
 have key : ∀ n, (∀ (j : Nat) o, j < n → l[j]? = some o → f o ≠ x) ∨ ∃ r, FstIs f l x r := by
  intro n
  induction n with
  | zero => exact .inl fun j o hj => by omega
  | succ n ih =>
   rcases ih with ih | ih
   ·cases hp : l[n]? with
    | none =>
     refine .inl fun j o hj ho => ih j o ?_ ho
     rcases Nat.lt_or_ge j n with h | h
     ·exact h
     ·obtain rfl : j = n := by omega
      rw [hp] at ho
      cases ho
    | some p =>
     by_cases he : f p = x
     ·exact .inr ⟨n, .inl ⟨n, p, hp, he, ih, rfl⟩⟩
     ·refine .inl fun j o hj ho => ?_
      rcases Nat.lt_or_ge j n with h | h
      ·exact ih j o h ho
      ·obtain rfl : j = n := by omega
       rw [hp] at ho
       cases ho
       exact he
   ·exact .inr ih
 rcases key l.length with h | h
 ·exact ⟨-1, .inr ⟨fun j o ho => h j o (List.getElem?_eq_some_iff.1 ho).1 ho, rfl⟩⟩
 ·exact h

set_option maxHeartbeats 8000000 in
set_option maxRecDepth 1000000 in
theorem rfeeder_any (A : Option Addr) (n c : Nat) (ws : Wk) (x r : Int) (w : World) (h : RK w.heap.size (.slice A n c) ws w) (ht : total ws ≤ 100000) (hr : FstIs (fun o : Ou => o.into) (outs ws) x r) :
  Calls Try.prog 130 #[.agg #[.slice A n c], .int .i64 x] w fun e w' => e = .returned (.int .i64 r) ∧ Below w.heap.size w w' := by
 have C1 := Lib.hid fun W (S : Wd w (.slice A n c) W) => routlets_any A n c ws W (h.up S.siz S.bel) ht
 have HR := Lib.hid hr
 have S0 := Lib.hid (Wd.new (w := w) (v := .slice A n c) 24)
 have htl : (total ws : Int) ≤ 100000 := by omega
 clear h hr
 go_enter Try.func130, Try.ntmps130
 go_wp2_with fail
 refine (C1.out _ S0.out).mono ?_
 rintro e w1 ⟨vo, rfl, ho, b1⟩
 have S := Lib.hid (S0.out.below b1)
 obtain ⟨Ao, co, rfl, -⟩ := ho.form
 have HO : Hid (RR encO w1.heap.size _ (outs ws) w1) := Lib.hid (ho.rr EO (by rw [outs_len]; omega))
 clear b1 S0 ho C1
 rw [outs_len] at HO ⊢
 go_wp2_with fail
 go_loopw [6] (fun u wr => ∃ i : Nat, u = .int .i64 i ∧ i ≤ total ws ∧ (∀ (j : Nat) o, j < i → (outs ws)[j]? = some o → o.into ≠ x) ∧ Below w.heap.size w wr ∧ RR encO wr.heap.size (.slice Ao (total ws) co) (outs ws) wr) (fun u _ => total ws - (intOf u).toNat)
 case atStart => exact ⟨0, rfl, by omega, fun j o hj => by omega, S.out.bel, HO.out⟩
 case round =>
  obtain ⟨i, rfl, hi, hno, hb, ho⟩ := hrel
  have HNO := Lib.hid hno
  have HB := Lib.hid hb
  have HO2 := Lib.hid ho
  clear hno hb ho
  by_cases hil : i < total ws
  ·have hi0 : (i : Int) < (total ws : Int) := by omega
   obtain ⟨p, hp⟩ : ∃ p, (outs ws)[i]? = some p := ⟨_, List.getElem?_eq_getElem (by rw [outs_len]; exact hil)⟩
   have HP := Lib.hid hp
   obtain ⟨bo, oo, c1, e1, -, -⟩ := HO2.out.at_ EO hp
   simp only [Value.slice.injEq] at e1
   obtain ⟨rfl, -, -⟩ := e1
   have q1 : wr.cell? ⟨bo, oo + i * 7 + 1, none⟩ = some (.int .i64 p.into) := HO2.out.cellsAt EO hp (i := 1) rfl
   clear hp
   by_cases he : p.into = x
   ·have HE := Lib.hid he
    go_wp2_with fail
    go_ret
    exact ⟨by rw [HR.out.at_ (HNO.out) HP.out HE.out]; rfl, HB.out⟩
   ·have HE := Lib.hid he
    go_wp2_with fail
    go_roundw
    case rel => exact ⟨i + 1, by go_num, by omega, fun j o hj ho => by
     rcases Nat.lt_or_ge j i with h | h
     ·exact HNO.out j o h ho
     ·obtain rfl : j = i := by omega
      rw [HP.out] at ho
      cases ho
      exact HE.out, HB.out, HO2.out⟩
    case measure => show total ws - ((i : Int) + 1).toNat < total ws - (i : Int).toNat; omega
  ·have hi0 : (total ws : Int) ≤ (i : Int) := by omega
   obtain rfl : i = total ws := by omega
   go_wp2_with fail
   go_ret
   exact ⟨by rw [HR.out.none_ (fun j o ho => HNO.out j o (by rw [← outs_len]; exact (List.getElem?_eq_some_iff.1 ho).1) ho)]; rfl, HB.out⟩

set_option maxHeartbeats 8000000 in
set_option maxRecDepth 1000000 in
theorem rindex_any (A : Option Addr) (n c : Nat) (ws : Wk) (x r : Int) (w : World) (h : RK w.heap.size (.slice A n c) ws w) (ht : total ws ≤ 100000) (hr : FstIs (fun o : Ou => o.id) (outs ws) x r) :
  Calls Try.prog 137 #[.agg #[.slice A n c], .int .i64 x] w fun e w' => e = .returned (.int .i64 r) ∧ Below w.heap.size w w' := by
 have C1 := Lib.hid fun W (S : Wd w (.slice A n c) W) => routlets_any A n c ws W (h.up S.siz S.bel) ht
 have HR := Lib.hid hr
 have S0 := Lib.hid (Wd.new (w := w) (v := .slice A n c) 24)
 have htl : (total ws : Int) ≤ 100000 := by omega
 clear h hr
 go_enter Try.func137, Try.ntmps137
 go_wp2_with fail
 refine (C1.out _ S0.out).mono ?_
 rintro e w1 ⟨vo, rfl, ho, b1⟩
 have S := Lib.hid (S0.out.below b1)
 obtain ⟨Ao, co, rfl, -⟩ := ho.form
 have HO : Hid (RR encO w1.heap.size _ (outs ws) w1) := Lib.hid (ho.rr EO (by rw [outs_len]; omega))
 clear b1 S0 ho C1
 rw [outs_len] at HO ⊢
 go_wp2_with fail
 go_loopw [6] (fun u wr => ∃ i : Nat, u = .int .i64 i ∧ i ≤ total ws ∧ (∀ (j : Nat) o, j < i → (outs ws)[j]? = some o → o.id ≠ x) ∧ Below w.heap.size w wr ∧ RR encO wr.heap.size (.slice Ao (total ws) co) (outs ws) wr) (fun u _ => total ws - (intOf u).toNat)
 case atStart => exact ⟨0, rfl, by omega, fun j o hj => by omega, S.out.bel, HO.out⟩
 case round =>
  obtain ⟨i, rfl, hi, hno, hb, ho⟩ := hrel
  have HNO := Lib.hid hno
  have HB := Lib.hid hb
  have HO2 := Lib.hid ho
  clear hno hb ho
  by_cases hil : i < total ws
  ·have hi0 : (i : Int) < (total ws : Int) := by omega
   obtain ⟨p, hp⟩ : ∃ p, (outs ws)[i]? = some p := ⟨_, List.getElem?_eq_getElem (by rw [outs_len]; exact hil)⟩
   have HP := Lib.hid hp
   obtain ⟨bo, oo, c1, e1, -, -⟩ := HO2.out.at_ EO hp
   simp only [Value.slice.injEq] at e1
   obtain ⟨rfl, -, -⟩ := e1
   have q1 : wr.cell? ⟨bo, oo + i * 7, none⟩ = some (.int .i64 p.id) := HO2.out.cellsAt EO hp (i := 0) rfl
   clear hp
   by_cases he : p.id = x
   ·have HE := Lib.hid he
    go_wp2_with fail
    go_ret
    exact ⟨by rw [HR.out.at_ (HNO.out) HP.out HE.out]; rfl, HB.out⟩
   ·have HE := Lib.hid he
    go_wp2_with fail
    go_roundw
    case rel => exact ⟨i + 1, by go_num, by omega, fun j o hj ho => by
     rcases Nat.lt_or_ge j i with h | h
     ·exact HNO.out j o h ho
     ·obtain rfl : j = i := by omega
      rw [HP.out] at ho
      cases ho
      exact HE.out, HB.out, HO2.out⟩
    case measure => show total ws - ((i : Int) + 1).toNat < total ws - (i : Int).toNat; omega
  ·have hi0 : (total ws : Int) ≤ (i : Int) := by omega
   obtain rfl : i = total ws := by omega
   go_wp2_with fail
   go_ret
   exact ⟨by rw [HR.out.none_ (fun j o ho => HNO.out j o (by rw [← outs_len]; exact (List.getElem?_eq_some_iff.1 ho).1) ho)]; rfl, HB.out⟩
end Go.Proofs.Ytkoacclbempmdaa

/- Contract of the specification's heads. -/
namespace Go.Proofs.Ytkoacclbempmdaa
open Go.RowKit

theorem feeder_fed {ws : Wk} {k : Nat} {r : Int} (h : FstIs (fun o : Ou => o.into) (outs ws) k r) : (fedB (allP ws) k = false ∧ r = -1) ∨ (fedB (allP ws) k = true ∧ 0 ≤ r) := by
 have hm : ∀ o, o ∈ outs ws ↔ ∃ p ∈ allP ws, p.o = o := fun o => by unfold outs; rw [List.mem_map]
 rcases h with ⟨i, p, hp, hf, _, rfl⟩ | ⟨h, rfl⟩
 ·right
  obtain ⟨q, hq, rfl⟩ := (hm p).1 (List.mem_of_getElem? hp)
  exact ⟨fedB_iff.2 ⟨q, hq, hf⟩, by omega⟩
 ·left
  refine ⟨?_, rfl⟩
  rw [Bool.eq_false_iff]
  intro hb
  obtain ⟨q, hq, e⟩ := fedB_iff.1 hb
  obtain ⟨j, hj⟩ := List.mem_iff_getElem?.1 ((hm q.o).2 ⟨q, hq, rfl⟩)
  exact h j q.o hj e

set_option maxHeartbeats 8000000 in
set_option maxRecDepth 1000000 in
theorem rheads_any (A : Option Addr) (n c : Nat) (ws : Wk) (w : World) (h : RK w.heap.size (.slice A n c) ws w) (ht : total ws ≤ 100000) (hln : ws.length ≤ 100000) :
  Calls Try.prog 103 #[.agg #[.slice A n c]] w fun e w' => ∃ v, e = .returned v ∧ OwnG encI 1 3 w.heap.size v (headsL ws) w' ∧ Below w.heap.size w w' := by
 obtain ⟨i0, hi0, hj0, hj1, hj2⟩ := info_parts infoInt
 have hn : n = ws.length := by obtain ⟨_, _, e, _⟩ := h; simp at e; exact e.2.1
 subst hn
 have C1 := Lib.hid fun (k : Nat) (r : Int) (hr : FstIs (fun o : Ou => o.into) (outs ws) k r) W (S : Wd w (.slice A ws.length c) W) => rfeeder_any A ws.length c ws k r W (h.up S.siz S.bel) ht hr
 have S0 := Lib.hid (Wd.new (w := w) (v := .slice A ws.length c) 24)
 clear h
 go_enter Try.func103, Try.ntmps103
 go_wp2_with fail
 go_loopw [3, 4] (fun o u wr => ∃ k : Nat, u = .int .i64 k ∧ k ≤ ws.length ∧ OwnG encI 1 3 (w.heap.size + 1) o (((List.range k).filter fun c => !fedB (allP ws) c).map Int.ofNat) wr ∧ Wd w (.slice A ws.length c) wr) (fun _ u _ => ws.length - (intOf u).toNat)
 case atStart => exact ⟨0, rfl, by omega, OwnG.nil _ _ _ _ _, S0.out⟩
 case round =>
  obtain ⟨k, rfl, hk, hO, hS⟩ := hrel
  have S := Lib.hid hS
  have HO := Lib.hid hO
  have t0 := hS.c
  obtain ⟨Av, cv, rfl, -⟩ := hO.form
  clear hS hO S0
  by_cases hkl : k < ws.length
  ·have hk0 : (k : Int) < (ws.length : Int) := by omega
   obtain ⟨r, hr⟩ := FstIs.exists_ (fun o : Ou => o.into) (outs ws) (k : Int)
   have HF := Lib.hid (feeder_fed hr)
   have HR := Lib.hid hr
   have HT := Lib.hid (headsL_take (ws := ws) hkl)
   clear hr
   obtain ⟨l, hl⟩ : ∃ l, (((List.range k).filter fun c => !fedB (allP ws) c).map Int.ofNat) = l := ⟨_, rfl⟩
   have HL := Lib.hid hl
   have hlb : l.length ≤ 100000 := by
    rw [← hl, List.length_map]
    have := List.length_filter_le (fun c => !fedB (allP ws) c) (List.range k)
    rw [List.length_range] at this
    omega
   rw [hl] at HO ⊢
   clear hl
   obtain ⟨n, hn⟩ : ∃ n, l.length = n := ⟨_, rfl⟩
   have HNL := Lib.hid hn
   rw [hn] at hlb ⊢
   have HO2 : Hid (wr.ownsRow (w.heap.size + 1) 3 1 (.slice Av n cv) n (l.flatMap encI)) := Lib.hid (by have := HO.out; unfold OwnG at this; rwa [hn] at this)
   clear hn
   go_wp2_with fail
   refine (C1.out k r HR.out _ S.out).mono ?_
   rintro e w1 ⟨rfl, b1⟩
   have S1 := Lib.hid (S.out.below b1)
   have HO3 := Lib.hid (ownsRow_grownL HO2.out (GrownL.of_below (bs := []) b1) (by simp))
   clear b1 t0 HO HO2
   have hbs := S1.out.2.1
   rcases HF.out with ⟨hf, hr⟩ | ⟨hf, hr⟩
   ·have HT : Hid (((List.range (k + 1)).filter fun c => !fedB (allP ws) c) = ((List.range k).filter fun c => !fedB (allP ws) c) ++ [k]) := Lib.hid (by rw [HT.out, hf]; rfl)
    subst hr
    clear hf
    go_wp2_with (at_builtin; refine wpList_append_own _ rfl _ _ 25 rfl (w.heap.size + 1) 3 i0 (.int .i64 0) 1 8 Try.underlying25 hi0 hj0 hj1 hj2 rfl (by decide) _ n _ rfl (HO3.out.alloc _) ⟨w1.heap.size, 0, none⟩ 1 1 [.int .i64 k] rfl rfl ?c1 ?c2 ?c3 ?c4 ?c5 ?_)
    case c1 =>
     intro i u hi
     match i, hi with
     | 0, hi => simp at hi; subst hi; simp [go_sem, Addr.add]
     | i + 1, hi => simp at hi
    case c2 => intro u hu; simp at hu; subst hu; rfl
    case c3 => unfold maxLen; omega
    case c4 => omega
    case c5 => simp <;> omega
    intro v' w4 hown' hgrow _
    have HLT := Lib.hid fun q (hq : q ∈ (Value.ownBlock (.slice Av n cv)).toList) => HO3.out.lt q (by simpa using hq)
    have g1 := (GrownL.of_below ((Below.refl w1.heap.size w1).alloc (Nat.le_refl _) (.cells #[.int .i64 k] 3))).trans (GrownL.of_row hgrow)
    have R : Hid (OwnG encI 1 3 (w.heap.size + 1) v' (((List.range (k + 1)).filter fun c => !fedB (allP ws) c).map Int.ofNat) w4) := Lib.hid (by
     rw [HT.out, List.map_append, HL.out]
     unfold OwnG
     rw [List.flatMap_append, List.length_append, HNL.out]
     exact hown')
    have SS := Lib.hid (S1.out.grown g1 (fun q hq => (HLT.out q hq).1))
    clear hown' hgrow g1
    obtain ⟨Av', cv', rfl, -⟩ := R.out.form
    go_wp2_with fail
    go_roundw
    case rel => exact ⟨k + 1, by go_num, by omega, R.out, SS.out⟩
    case measure => show ws.length - ((k : Int) + 1).toNat < ws.length - (k : Int).toNat; omega
   ·have HT : Hid (((List.range (k + 1)).filter fun c => !fedB (allP ws) c) = ((List.range k).filter fun c => !fedB (allP ws) c) ++ []) := Lib.hid (by rw [HT.out, hf]; rfl)
    clear hf
    go_wp2_with fail
    go_roundw
    case rel => exact ⟨k + 1, by go_num, by omega, by rw [HT.out, List.append_nil, HL.out]; unfold OwnG; rw [HNL.out]; exact HO3.out, S1.out⟩
    case measure => show ws.length - ((k : Int) + 1).toNat < ws.length - (k : Int).toNat; omega
  ·have hk0 : (ws.length : Int) ≤ (k : Int) := by omega
   obtain rfl : k = ws.length := by omega
   go_wp2_with fail
   go_ret
   exact ⟨_, rfl, OwnG.low (base := w.heap.size + 1) (base' := w.heap.size) HO.out (Nat.le_succ _), S.out.bel⟩
end Go.Proofs.Ytkoacclbempmdaa

/- Contracts of Heads on both sides. -/
namespace Go.Proofs.Ytkoacclbempmdaa
open Go.RowKit
/-- A list, where there is no error. -/
def okL {α : Type} (d : Int) (l : List α) : List α := if d = 0 then l else []
theorem okL_zero {α : Type} (l : List α) : okL 0 l = l := rfl
theorem okL_ne {α : Type} {d : Int} (h : d ≠ 0) (l : List α) : okL d l = [] := if_neg h

set_option maxHeartbeats 8000000 in
set_option maxRecDepth 1000000 in
theorem Heads_any (v : Value) (ws : Wk) (d : Int) (w : World) (h : RK w.heap.size v ws w) (ht : total ws ≤ 100000) (hc : CheckIs ws d) :
  Calls Try.prog 44 #[.agg #[v]] w fun e w' => ∃ u, e = .returned (.tuple #[u, .int .i64 d]) ∧ OwnG encI 1 3 w.heap.size u (okL d (headsL ws)) w' ∧ Below w.heap.size w w' := by
 obtain ⟨A, c, rfl, -⟩ := id h
 have C1 := Lib.hid fun W (S : Wd w (.slice A ws.length c) W) => check_any (.slice A ws.length c) ws d W (h.up S.siz S.bel) (by omega) hc
 have C2 := Lib.hid fun W (S : Wd w (.slice A ws.length c) W) => heads_any A ws.length c ws W (h.up S.siz S.bel)
 have HC := Lib.hid hc
 have S0 := Lib.hid (Wd.new (w := w) (v := .slice A ws.length c) 24)
 clear h hc
 go_enter Try.func44, Try.ntmps44
 go_wp2_with fail
 refine (C1.out _ S0.out).mono ?_
 rintro e w1 ⟨rfl, b1⟩
 have S := Lib.hid ((S0.out).below b1)
 have t0 := S.out.c
 clear b1 S0 C1
 by_cases hd : d = 0
 ·subst hd
  have HW := Lib.hid HC.out.ok
  go_wp2_with fail
  refine (C2.out _ S.out HW.out).mono ?_
  rintro e w2 ⟨u, rfl, ho, b2⟩
  have HO := Lib.hid ho
  have S2 := Lib.hid (S.out.below b2)
  obtain ⟨Au, cu, rfl, -⟩ := ho.form
  clear ho b2
  go_wp2_with fail
  refine bodyPost_ret (results_tmp2 rfl _ _ _) rfl ?_
  exact ⟨_, rfl, by rw [okL_zero]; exact HO.out.low (by have := S.out.siz; omega), S2.out.bel⟩
 ·have HD := Lib.hid hd
  go_wp2_with fail
  refine bodyPost_ret (results_tmp2 rfl _ _ _) rfl ?_
  exact ⟨_, rfl, by rw [okL_ne HD.out]; exact OwnG.nil _ _ _ _ _, S.out.bel⟩

/-- The block of an answer that is a list and an error. -/
structure Rb (w W : World) : Prop where
 c0 : W.cell? ⟨w.heap.size + 1, 0, none⟩ = some (.slice none 0 0)
 c1 : W.cell? ⟨w.heap.size + 1, 1, none⟩ = some (.int .i64 0)
 f0 : W.frozen? ⟨w.heap.size + 1, 0, none⟩ = false
 f1 : W.frozen? ⟨w.heap.size + 1, 1, none⟩ = false
theorem Rb.siz {w W : World} (h : Rb w W) : w.heap.size + 2 ≤ W.heap.size := World.block_lt_of_cell? _ _ h.c0
theorem Rb.new (w : World) (v : Value) : Rb w ((w.alloc (.cells #[v] 24)).alloc (.cells #[.slice none 0 0, .int .i64 0] 86)) := ⟨by simp [go_sem], by simp [go_sem], by simp [go_sem], by simp [go_sem]⟩
theorem Rb.below {w W W' : World} {n : Nat} (h : Rb w W) (hb : Below n W W') (hn : w.heap.size + 2 ≤ n) : Rb w W' :=
 ⟨(hb.cell (p := ⟨w.heap.size + 1, 0, none⟩) (by show w.heap.size + 1 < n; omega)).trans h.c0, (hb.cell (p := ⟨w.heap.size + 1, 1, none⟩) (by show w.heap.size + 1 < n; omega)).trans h.c1, (hb.frozen (p := ⟨w.heap.size + 1, 0, none⟩) (by show w.heap.size + 1 < n; omega)).trans h.f0, (hb.frozen (p := ⟨w.heap.size + 1, 1, none⟩) (by show w.heap.size + 1 < n; omega)).trans h.f1⟩
theorem Rb.ret {w W : World} (h : Rb w W) (hb : Below w.heap.size w W) (v : Value) (d : Int) :
  ((W.setCell ⟨w.heap.size + 1, 0, none⟩ v).setCell ⟨w.heap.size + 1, 1, none⟩ (.int .i64 d)).cell? ⟨w.heap.size + 1, 0, none⟩ = some v ∧ ((W.setCell ⟨w.heap.size + 1, 0, none⟩ v).setCell ⟨w.heap.size + 1, 1, none⟩ (.int .i64 d)).cell? ⟨w.heap.size + 1, 1, none⟩ = some (.int .i64 d) ∧
  Below w.heap.size w ((W.setCell ⟨w.heap.size + 1, 0, none⟩ v).setCell ⟨w.heap.size + 1, 1, none⟩ (.int .i64 d)) ∧ GrownL [w.heap.size + 1] W ((W.setCell ⟨w.heap.size + 1, 0, none⟩ v).setCell ⟨w.heap.size + 1, 1, none⟩ (.int .i64 d)) := by
 have g : GrownL [w.heap.size + 1] W ((W.setCell ⟨w.heap.size + 1, 0, none⟩ v).setCell ⟨w.heap.size + 1, 1, none⟩ (.int .i64 d)) := (GrownL.set _ _ _ (by simp)).trans (GrownL.set _ _ _ (by simp))
 have e1 : (W.setCell ⟨w.heap.size + 1, 0, none⟩ v).cell? ⟨w.heap.size + 1, 0, none⟩ = some v := World.cell?_setCell_same' _ _ _ (by rw [h.c0]; rfl)
 have e2 : (W.setCell ⟨w.heap.size + 1, 0, none⟩ v).cell? ⟨w.heap.size + 1, 1, none⟩ = some (.int .i64 0) := (World.cell?_setCell_other _ ⟨w.heap.size + 1, 0, none⟩ ⟨w.heap.size + 1, 1, none⟩ _ (by simp)).trans h.c1
 exact ⟨(World.cell?_setCell_other _ ⟨w.heap.size + 1, 1, none⟩ ⟨w.heap.size + 1, 0, none⟩ _ (by simp)).trans e1, World.cell?_setCell_same' _ _ _ (by rw [e2]; rfl), hb.trans (g.below (by simp) hb.size), g⟩

set_option maxHeartbeats 8000000 in
set_option maxRecDepth 1000000 in
theorem rHeads_any (v : Value) (ws : Wk) (d : Int) (w : World) (h : RK w.heap.size v ws w) (ht : total ws ≤ 100000) (hc : CheckIs ws d) :
  Calls Try.prog 45 #[.agg #[v]] w fun e w' => ∃ u, e = .returned (.agg #[u, .int .i64 d]) ∧ OwnG encI 1 3 w.heap.size u (okL d (headsL ws)) w' ∧ Below w.heap.size w w' := by
 obtain ⟨A, c, rfl, -⟩ := id h
 have C1 := Lib.hid fun W (S : Wd w (.slice A ws.length c) W) => rcheck_any A ws.length c ws d W (h.up S.siz S.bel) ht hc
 have C2 := Lib.hid fun W (S : Wd w (.slice A ws.length c) W) => rheads_any A ws.length c ws W (h.up S.siz S.bel) ht
 have HC := Lib.hid hc
 have S0 := Lib.hid ((Wd.new (w := w) (v := .slice A ws.length c) 24).below ((Below.refl _ _).alloc (Nat.le_refl _) (.cells #[.slice none 0 0, .int .i64 0] 86)))
 have R0 := Lib.hid (Rb.new w (.slice A ws.length c))
 clear h hc
 go_enter Try.func45, Try.ntmps45
 go_wp2_with fail
 refine (C1.out _ S0.out).mono ?_
 rintro e w1 ⟨rfl, b1⟩
 have S := Lib.hid (S0.out.below b1)
 have R := Lib.hid (R0.out.below b1 (by simp))
 have t0 := S.out.c
 clear b1 S0 C1 R0
 by_cases hd : d = 0
 ·subst hd
  have HW := Lib.hid HC.out.ok
  go_wp2_with fail
  refine (C2.out _ S.out (by have := HW.out.len; omega)).mono ?_
  rintro e w2 ⟨u, rfl, ho, b2⟩
  have HO := Lib.hid ho
  have S2 := Lib.hid (S.out.below b2)
  have R2 := Lib.hid (R.out.below b2 R.out.siz)
  obtain ⟨Au, cu, rfl, -⟩ := ho.form
  have r0 := R2.out.c0
  have r1 := R2.out.c1
  have r2 := R2.out.f0
  have r3 := R2.out.f1
  clear ho b2 t0
  go_wp2_with fail
  obtain ⟨p0, p1, bb, gg⟩ := R2.out.ret S2.out.bel (.slice Au (headsL ws).length cu) 0
  refine bodyPost_ret (v := .agg #[.slice Au (headsL ws).length cu, .int .i64 0]) (by simp [results, Try.results45, go_sem, p0, p1]) rfl ?_
  exact ⟨_, rfl, by rw [okL_zero]; exact (HO.out.grown gg (fun q hq hm => by have := (HO.out.lt q hq).1; have := R.out.siz; simp at hm; omega)).low (by have := S.out.siz; omega), bb⟩
 ·have HD := Lib.hid hd
  have r0 := R.out.c0
  have r1 := R.out.c1
  have r2 := R.out.f0
  have r3 := R.out.f1
  clear t0
  go_wp2_with fail
  obtain ⟨p0, p1, bb, gg⟩ := R.out.ret S.out.bel (.slice none 0 0) d
  refine bodyPost_ret (v := .agg #[.slice none 0 0, .int .i64 d]) (by simp [results, Try.results45, go_sem, p0, p1]) rfl ?_
  exact ⟨_, rfl, by rw [okL_ne HD.out]; exact OwnG.nil _ _ _ _ _, bb⟩
end Go.Proofs.Ytkoacclbempmdaa

/- Contracts of the specification's Outlets and Beds. -/
namespace Go.Proofs.Ytkoacclbempmdaa
open Go.RowKit
/-- The numbers of some outlets. -/
def idsL (p : Ou → Bool) (l : List Ou) : List Int := (l.filter p).map fun o => o.id
theorem one_news (W : World) (v : Value) (t : TypeId) : ∀ (j : Nat) u, [v][j]? = some u → (W.alloc (.cells #[v] t)).cell? ((⟨W.heap.size, 0, none⟩ : Addr).add j) = some u := fun j u hj => by
 match j, hj with
 | 0, hj => simp at hj; subst hj; simp [go_sem, Addr.add]
 | j + 1, hj => simp at hj
theorem one_one (n : Int) : ∀ u ∈ [Value.int .i64 n], u.oneCell' = true := fun u hu => by
 simp at hu
 subst hu
 rfl
theorem idsL_len (p : Ou → Bool) (l : List Ou) : (idsL p l).length ≤ l.length := by unfold idsL; rw [List.length_map]; exact List.length_filter_le _ _
theorem idsL_keep {p : Ou → Bool} {l : List Ou} {i : Nat} {o : Ou} (h : l[i]? = some o) (hp : p o = true) : idsL p (l.take (i + 1)) = idsL p (l.take i) ++ [o.id] := by
 rw [take_at h]
 unfold idsL
 rw [List.filter_append, List.map_append]
 simp [hp]
theorem idsL_drop {p : Ou → Bool} {l : List Ou} {i : Nat} {o : Ou} (h : l[i]? = some o) (hp : p o = false) : idsL p (l.take (i + 1)) = idsL p (l.take i) := by
 rw [take_at h]
 unfold idsL
 rw [List.filter_append, List.map_append]
 simp [hp]

set_option maxHeartbeats 16000000 in
set_option maxRecDepth 1000000 in
theorem rOutlets_any (v : Value) (ws : Wk) (d : Int) (w : World) (h : RK w.heap.size v ws w) (ht : total ws ≤ 100000) (hc : CheckIs ws d) :
  Calls Try.prog 47 #[.agg #[v]] w fun e w' => ∃ u, e = .returned (.agg #[u, .int .i64 d]) ∧ OwnG encI 1 3 w.heap.size u (okL d (idsL (fun _ => true) (outs ws))) w' ∧ Below w.heap.size w w' := by
 obtain ⟨i0, hz0, hj0, hj1, hj2⟩ := info_parts infoInt
 obtain ⟨A, c, rfl, -⟩ := id h
 have C1 := Lib.hid fun W (S : Wd w (.slice A ws.length c) W) => rcheck_any A ws.length c ws d W (h.up S.siz S.bel) ht hc
 have C2 := Lib.hid fun W (S : Wd w (.slice A ws.length c) W) => routlets_any A ws.length c ws W (h.up S.siz S.bel) ht
 have HC := Lib.hid hc
 have S0 := Lib.hid ((Wd.new (w := w) (v := .slice A ws.length c) 24).below ((Below.refl _ _).alloc (Nat.le_refl _) (.cells #[.slice none 0 0, .int .i64 0] 86)))
 have R0 := Lib.hid (Rb.new w (.slice A ws.length c))
 have htl : (total ws : Int) ≤ 100000 := by omega
 clear h hc
 go_enter Try.func47, Try.ntmps47
 go_wp2_with fail
 refine (C1.out _ S0.out).mono ?_
 rintro e w1 ⟨rfl, b1⟩
 have S := Lib.hid (S0.out.below b1)
 have RB := Lib.hid (R0.out.below b1 (by simp))
 have t0 := S.out.c
 clear b1 S0 C1 R0
 by_cases hd : d = 0
 ·subst hd
  go_wp2_with fail
  refine (C2.out _ S.out).mono ?_
  rintro e w2 ⟨u, rfl, ho, b2⟩
  have HO : Hid (RR encO w2.heap.size u (outs ws) w2) := Lib.hid (ho.rr EO (by rw [outs_len]; omega))
  have S2 := Lib.hid (S.out.below b2)
  have R2 := Lib.hid (RB.out.below b2 RB.out.siz)
  have HBS := Lib.hid b2.size
  have HW2 := Lib.hid RB.out.siz
  obtain ⟨Ao, co, rfl, -⟩ := ho.form
  have HLO0 := Lib.hid fun g (hg : (Value.slice Ao (outs ws).length co).ownBlock = some g) => (ho.lt g hg)
  rw [outs_len] at HO HLO0 ⊢
  clear ho b2 t0 S RB
  go_wp2_with fail
  go_loopw [5, 6] (fun o u wr => ∃ i : Nat, u = .int .i64 i ∧ i ≤ total ws ∧ OwnG encI 1 3 w2.heap.size o (idsL (fun _ => true) ((outs ws).take i)) wr ∧ Below w2.heap.size w2 wr) (fun _ u _ => total ws - (intOf u).toNat)
  case atStart => exact ⟨0, rfl, by omega, OwnG.nil _ _ _ _ _, Below.refl _ _⟩
  case round =>
   obtain ⟨i, rfl, hi, hv, hb⟩ := hrel
   have HV := Lib.hid hv
   have HB := Lib.hid hb
   obtain ⟨Av, cv, rfl, -⟩ := hv.form
   clear hv
   by_cases hil : i < total ws
   ·have hi0 : (i : Int) < (total ws : Int) := by omega
    obtain ⟨p, hp⟩ : ∃ p, (outs ws)[i]? = some p := ⟨_, List.getElem?_eq_getElem (by rw [outs_len]; exact hil)⟩
    have HP := Lib.hid hp
    obtain ⟨bo, oo, c1, e1, -, -⟩ := (HO.out.up (Nat.le_refl _) HB.out).at_ EO hp
    simp only [Value.slice.injEq] at e1
    obtain ⟨rfl, -, -⟩ := e1
    have q0 : wr.cell? ⟨bo, oo + i * 7, none⟩ = some (.int .i64 p.id) := (HO.out.up (Nat.le_refl _) HB.out).cellsAt EO hp (i := 0) rfl
    have q1 : wr.cell? ⟨bo, oo + i * 7 + 1, none⟩ = some (.int .i64 p.into) := (HO.out.up (Nat.le_refl _) HB.out).cellsAt EO hp (i := 1) rfl
    have q2 : wr.cell? ⟨bo, oo + i * 7 + 2, none⟩ = some p.pv := (HO.out.up (Nat.le_refl _) HB.out).cellsAt EO hp (i := 2) rfl
    have q3 : wr.cell? ⟨bo, oo + i * 7 + 3, none⟩ = some (.int .i64 p.k0) := (HO.out.up (Nat.le_refl _) HB.out).cellsAt EO hp (i := 3) rfl
    have q4 : wr.cell? ⟨bo, oo + i * 7 + 4, none⟩ = some (.int .i64 p.k1) := (HO.out.up (Nat.le_refl _) HB.out).cellsAt EO hp (i := 4) rfl
    have q5 : wr.cell? ⟨bo, oo + i * 7 + 5, none⟩ = some (.int .i64 p.s0) := (HO.out.up (Nat.le_refl _) HB.out).cellsAt EO hp (i := 5) rfl
    have q6 : wr.cell? ⟨bo, oo + i * 7 + 6, none⟩ = some (.int .i64 p.s1) := (HO.out.up (Nat.le_refl _) HB.out).cellsAt EO hp (i := 6) rfl
    clear hp
    obtain ⟨l, hl⟩ : ∃ l, idsL (fun _ => true) ((outs ws).take i) = l := ⟨_, rfl⟩
    have HL := Lib.hid hl
    have hlb : l.length ≤ 100000 := by
     rw [← hl]
     exact Nat.le_trans (idsL_len _ _) (Nat.le_trans (List.length_take_le _ _) (by omega))
    rw [hl] at HV ⊢
    clear hl
    have HT : Hid (idsL (fun _ => true) ((outs ws).take (i + 1)) = idsL (fun _ => true) ((outs ws).take i) ++ [p.id]) := Lib.hid (idsL_keep HP.out rfl)

    obtain ⟨n, hn⟩ : ∃ n, l.length = n := ⟨_, rfl⟩
    have HNL := Lib.hid hn
    rw [hn] at hlb ⊢
    have HO2 : Hid (wr.ownsRow w2.heap.size 3 1 (.slice Av n cv) n (l.flatMap encI)) := Lib.hid (by have := HV.out; unfold OwnG at this; rwa [hn] at this)
    clear hn
    have hbs := hb.size
    go_wp2_with (at_builtin; refine wpList_append_own _ rfl _ _ 25 rfl w2.heap.size 3 i0 (.int .i64 0) 1 8 Try.underlying25 hz0 hj0 hj1 hj2 rfl (by decide) _ n _ rfl (HO2.out.alloc _) ⟨wr.heap.size, 0, none⟩ 1 1 [.int .i64 p.id] rfl rfl (fun i u hi => one_news wr (.int .i64 p.id) 3 i u hi) (fun u hu => one_one p.id u hu) ?c3 ?c4 ?c5 ?_)
    case c3 => unfold maxLen; omega
    case c4 => omega
    case c5 => first | (simp <;> omega) | omega
    intro v' w4 hown' hgrow _
    have HLT := Lib.hid fun q (hq : q ∈ (Value.ownBlock (.slice Av n cv)).toList) => HO2.out.lt q (by simpa using hq)
    have g1 := (GrownL.of_below ((Below.refl wr.heap.size wr).alloc (Nat.le_refl _) (.cells #[.int .i64 p.id] 3))).trans (GrownL.of_row hgrow)
    have R : Hid (OwnG encI 1 3 w2.heap.size v' (idsL (fun _ => true) ((outs ws).take (i + 1))) w4) := Lib.hid (by
     rw [HT.out, HL.out]
     unfold OwnG
     rw [List.flatMap_append, List.length_append, HNL.out]
     exact hown')
    have BB := Lib.hid (HB.out.trans (g1.below (fun q hq => (HLT.out q hq).1) HB.out.size))
    clear hown' hgrow g1
    obtain ⟨Av', cv', rfl, -⟩ := R.out.form
    go_wp2_with fail
    go_roundw
    case rel => exact ⟨i + 1, by go_num, by omega, R.out, BB.out⟩
    case measure => show total ws - ((i : Int) + 1).toNat < total ws - (i : Int).toNat; omega
   ·have hi0 : (total ws : Int) ≤ (i : Int) := by omega
    obtain rfl : i = total ws := by omega
    have HE : Hid (idsL (fun _ => true) ((outs ws).take (total ws)) = idsL (fun _ => true) (outs ws)) := Lib.hid (by rw [List.take_of_length_le (by rw [outs_len]; omega)])
    rw [HE.out] at HV ⊢
    have SE := Lib.hid ((S2.out.below hb))
    have RE := Lib.hid (R2.out.below hb R2.out.siz)
    have r0 := RE.out.c0
    have r1 := RE.out.c1
    have r2 := RE.out.f0
    have r3 := RE.out.f1
    go_wp2_with fail
    obtain ⟨p0, p1, bb, gg⟩ := RE.out.ret SE.out.bel (.slice Av (idsL (fun _ => true) (outs ws)).length cv) 0
    refine bodyPost_ret (v := .agg #[.slice Av (idsL (fun _ => true) (outs ws)).length cv, .int .i64 0]) (by simp [results, Try.results47, go_sem, p0, p1]) rfl ?_
    exact ⟨_, rfl, by rw [okL_zero]; exact (HV.out.grown gg (fun q hq hm => by have := (HV.out.lt q hq).1; have := R2.out.siz; simp at hm; omega)).low (by have := R2.out.siz; omega), bb⟩
 ·have HD := Lib.hid hd
  have r0 := RB.out.c0
  have r1 := RB.out.c1
  have r2 := RB.out.f0
  have r3 := RB.out.f1
  clear t0
  go_wp2_with fail
  obtain ⟨p0, p1, bb, gg⟩ := RB.out.ret S.out.bel (.slice none 0 0) d
  refine bodyPost_ret (v := .agg #[.slice none 0 0, .int .i64 d]) (by simp [results, Try.results47, go_sem, p0, p1]) rfl ?_
  exact ⟨_, rfl, by rw [okL_ne HD.out]; exact OwnG.nil _ _ _ _ _, bb⟩

set_option maxHeartbeats 16000000 in
set_option maxRecDepth 1000000 in
theorem rBeds_any (v : Value) (ws : Wk) (d : Int) (w : World) (h : RK w.heap.size v ws w) (ht : total ws ≤ 100000) (hc : CheckIs ws d) :
  Calls Try.prog 49 #[.agg #[v]] w fun e w' => ∃ u, e = .returned (.agg #[u, .int .i64 d]) ∧ OwnG encI 1 3 w.heap.size u (okL d (idsL (fun o => decide (o.into < 0)) (outs ws))) w' ∧ Below w.heap.size w w' := by
 obtain ⟨i0, hz0, hj0, hj1, hj2⟩ := info_parts infoInt
 obtain ⟨A, c, rfl, -⟩ := id h
 have C1 := Lib.hid fun W (S : Wd w (.slice A ws.length c) W) => rcheck_any A ws.length c ws d W (h.up S.siz S.bel) ht hc
 have C2 := Lib.hid fun W (S : Wd w (.slice A ws.length c) W) => routlets_any A ws.length c ws W (h.up S.siz S.bel) ht
 have HC := Lib.hid hc
 have S0 := Lib.hid ((Wd.new (w := w) (v := .slice A ws.length c) 24).below ((Below.refl _ _).alloc (Nat.le_refl _) (.cells #[.slice none 0 0, .int .i64 0] 86)))
 have R0 := Lib.hid (Rb.new w (.slice A ws.length c))
 have htl : (total ws : Int) ≤ 100000 := by omega
 clear h hc
 go_enter Try.func49, Try.ntmps49
 go_wp2_with fail
 refine (C1.out _ S0.out).mono ?_
 rintro e w1 ⟨rfl, b1⟩
 have S := Lib.hid (S0.out.below b1)
 have RB := Lib.hid (R0.out.below b1 (by simp))
 have t0 := S.out.c
 clear b1 S0 C1 R0
 by_cases hd : d = 0
 ·subst hd
  go_wp2_with fail
  refine (C2.out _ S.out).mono ?_
  rintro e w2 ⟨u, rfl, ho, b2⟩
  have HO : Hid (RR encO w2.heap.size u (outs ws) w2) := Lib.hid (ho.rr EO (by rw [outs_len]; omega))
  have S2 := Lib.hid (S.out.below b2)
  have R2 := Lib.hid (RB.out.below b2 RB.out.siz)
  have HBS := Lib.hid b2.size
  have HW2 := Lib.hid RB.out.siz
  obtain ⟨Ao, co, rfl, -⟩ := ho.form
  have HLO0 := Lib.hid fun g (hg : (Value.slice Ao (outs ws).length co).ownBlock = some g) => (ho.lt g hg)
  rw [outs_len] at HO HLO0 ⊢
  clear ho b2 t0 S RB
  go_wp2_with fail
  go_loopw [5, 6] (fun o u wr => ∃ i : Nat, u = .int .i64 i ∧ i ≤ total ws ∧ OwnG encI 1 3 w2.heap.size o (idsL (fun o => decide (o.into < 0)) ((outs ws).take i)) wr ∧ Below w2.heap.size w2 wr) (fun _ u _ => total ws - (intOf u).toNat)
  case atStart => exact ⟨0, rfl, by omega, OwnG.nil _ _ _ _ _, Below.refl _ _⟩
  case round =>
   obtain ⟨i, rfl, hi, hv, hb⟩ := hrel
   have HV := Lib.hid hv
   have HB := Lib.hid hb
   obtain ⟨Av, cv, rfl, -⟩ := hv.form
   clear hv
   by_cases hil : i < total ws
   ·have hi0 : (i : Int) < (total ws : Int) := by omega
    obtain ⟨p, hp⟩ : ∃ p, (outs ws)[i]? = some p := ⟨_, List.getElem?_eq_getElem (by rw [outs_len]; exact hil)⟩
    have HP := Lib.hid hp
    obtain ⟨bo, oo, c1, e1, -, -⟩ := (HO.out.up (Nat.le_refl _) HB.out).at_ EO hp
    simp only [Value.slice.injEq] at e1
    obtain ⟨rfl, -, -⟩ := e1
    have q0 : wr.cell? ⟨bo, oo + i * 7, none⟩ = some (.int .i64 p.id) := (HO.out.up (Nat.le_refl _) HB.out).cellsAt EO hp (i := 0) rfl
    have q1 : wr.cell? ⟨bo, oo + i * 7 + 1, none⟩ = some (.int .i64 p.into) := (HO.out.up (Nat.le_refl _) HB.out).cellsAt EO hp (i := 1) rfl
    have q2 : wr.cell? ⟨bo, oo + i * 7 + 2, none⟩ = some p.pv := (HO.out.up (Nat.le_refl _) HB.out).cellsAt EO hp (i := 2) rfl
    have q3 : wr.cell? ⟨bo, oo + i * 7 + 3, none⟩ = some (.int .i64 p.k0) := (HO.out.up (Nat.le_refl _) HB.out).cellsAt EO hp (i := 3) rfl
    have q4 : wr.cell? ⟨bo, oo + i * 7 + 4, none⟩ = some (.int .i64 p.k1) := (HO.out.up (Nat.le_refl _) HB.out).cellsAt EO hp (i := 4) rfl
    have q5 : wr.cell? ⟨bo, oo + i * 7 + 5, none⟩ = some (.int .i64 p.s0) := (HO.out.up (Nat.le_refl _) HB.out).cellsAt EO hp (i := 5) rfl
    have q6 : wr.cell? ⟨bo, oo + i * 7 + 6, none⟩ = some (.int .i64 p.s1) := (HO.out.up (Nat.le_refl _) HB.out).cellsAt EO hp (i := 6) rfl
    clear hp
    obtain ⟨l, hl⟩ : ∃ l, idsL (fun o => decide (o.into < 0)) ((outs ws).take i) = l := ⟨_, rfl⟩
    have HL := Lib.hid hl
    have hlb : l.length ≤ 100000 := by
     rw [← hl]
     exact Nat.le_trans (idsL_len _ _) (Nat.le_trans (List.length_take_le _ _) (by omega))
    rw [hl] at HV ⊢
    clear hl
    by_cases hneg : p.into < 0
    ·have HT : Hid (idsL (fun o => decide (o.into < 0)) ((outs ws).take (i + 1)) = idsL (fun o => decide (o.into < 0)) ((outs ws).take i) ++ [p.id]) := Lib.hid (idsL_keep HP.out (by simpa using hneg))
     obtain ⟨n, hn⟩ : ∃ n, l.length = n := ⟨_, rfl⟩
     have HNL := Lib.hid hn
     rw [hn] at hlb ⊢
     have HO2 : Hid (wr.ownsRow w2.heap.size 3 1 (.slice Av n cv) n (l.flatMap encI)) := Lib.hid (by have := HV.out; unfold OwnG at this; rwa [hn] at this)
     clear hn
     have hbs := hb.size
     go_wp2_with (at_builtin; refine wpList_append_own _ rfl _ _ 25 rfl w2.heap.size 3 i0 (.int .i64 0) 1 8 Try.underlying25 hz0 hj0 hj1 hj2 rfl (by decide) _ n _ rfl (HO2.out.alloc _) ⟨wr.heap.size, 0, none⟩ 1 1 [.int .i64 p.id] rfl rfl (fun i u hi => one_news wr (.int .i64 p.id) 3 i u hi) (fun u hu => one_one p.id u hu) ?c3 ?c4 ?c5 ?_)
     case c3 => unfold maxLen; omega
     case c4 => omega
     case c5 => first | (simp <;> omega) | omega
     intro v' w4 hown' hgrow _
     have HLT := Lib.hid fun q (hq : q ∈ (Value.ownBlock (.slice Av n cv)).toList) => HO2.out.lt q (by simpa using hq)
     have g1 := (GrownL.of_below ((Below.refl wr.heap.size wr).alloc (Nat.le_refl _) (.cells #[.int .i64 p.id] 3))).trans (GrownL.of_row hgrow)
     have R : Hid (OwnG encI 1 3 w2.heap.size v' (idsL (fun o => decide (o.into < 0)) ((outs ws).take (i + 1))) w4) := Lib.hid (by
      rw [HT.out, HL.out]
      unfold OwnG
      rw [List.flatMap_append, List.length_append, HNL.out]
      exact hown')
     have BB := Lib.hid (HB.out.trans (g1.below (fun q hq => (HLT.out q hq).1) HB.out.size))
     clear hown' hgrow g1
     obtain ⟨Av', cv', rfl, -⟩ := R.out.form
     go_wp2_with fail
     go_roundw
     case rel => exact ⟨i + 1, by go_num, by omega, R.out, BB.out⟩
     case measure => show total ws - ((i : Int) + 1).toNat < total ws - (i : Int).toNat; omega
    ·have HT : Hid (idsL (fun o => decide (o.into < 0)) ((outs ws).take (i + 1)) = idsL (fun o => decide (o.into < 0)) ((outs ws).take i)) := Lib.hid (idsL_drop HP.out (by simpa using hneg))
     go_wp2_with fail
     go_roundw
     case rel => exact ⟨i + 1, by go_num, by omega, by rw [HT.out, HL.out]; exact HV.out, HB.out⟩
     case measure => show total ws - ((i : Int) + 1).toNat < total ws - (i : Int).toNat; omega
   ·have hi0 : (total ws : Int) ≤ (i : Int) := by omega
    obtain rfl : i = total ws := by omega
    have HE : Hid (idsL (fun o => decide (o.into < 0)) ((outs ws).take (total ws)) = idsL (fun o => decide (o.into < 0)) (outs ws)) := Lib.hid (by rw [List.take_of_length_le (by rw [outs_len]; omega)])
    rw [HE.out] at HV ⊢
    have SE := Lib.hid ((S2.out.below hb))
    have RE := Lib.hid (R2.out.below hb R2.out.siz)
    have r0 := RE.out.c0
    have r1 := RE.out.c1
    have r2 := RE.out.f0
    have r3 := RE.out.f1
    go_wp2_with fail
    obtain ⟨p0, p1, bb, gg⟩ := RE.out.ret SE.out.bel (.slice Av (idsL (fun o => decide (o.into < 0)) (outs ws)).length cv) 0
    refine bodyPost_ret (v := .agg #[.slice Av (idsL (fun o => decide (o.into < 0)) (outs ws)).length cv, .int .i64 0]) (by simp [results, Try.results49, go_sem, p0, p1]) rfl ?_
    exact ⟨_, rfl, by rw [okL_zero]; exact (HV.out.grown gg (fun q hq hm => by have := (HV.out.lt q hq).1; have := R2.out.siz; simp at hm; omega)).low (by have := R2.out.siz; omega), bb⟩
 ·have HD := Lib.hid hd
  have r0 := RB.out.c0
  have r1 := RB.out.c1
  have r2 := RB.out.f0
  have r3 := RB.out.f1
  clear t0
  go_wp2_with fail
  obtain ⟨p0, p1, bb, gg⟩ := RB.out.ret S.out.bel (.slice none 0 0) d
  refine bodyPost_ret (v := .agg #[.slice none 0 0, .int .i64 d]) (by simp [results, Try.results49, go_sem, p0, p1]) rfl ?_
  exact ⟨_, rfl, by rw [okL_ne HD.out]; exact OwnG.nil _ _ _ _ _, bb⟩
end Go.Proofs.Ytkoacclbempmdaa
