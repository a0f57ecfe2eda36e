/- Contract of the specification's right. -/
import Derived.Test.YtkoacclbempmdaaO5
import Derived.Lib.AppendZerosOnto
import Derived.Maps.AppendAt
import Derived.OwnWalk
namespace Go.Proofs.Ytkoacclbempmdaa
open Go.RowKit

abbrev wBlk (A : Option Addr) (n c : Nat) : Obj := .cells #[.slice A n c] 24 (0, 0)
abbrev oBlk (id into : Int) (pv : Value) (k0 k1 s0 s1 : Int) : Obj := .cells #[.int .i64 id, .int .i64 into, pv, .int .i64 k0, .int .i64 k1, .int .i64 s0, .int .i64 s1] 42 (0, 0)
theorem cells8 {w W : World} {a b c d e f g v : Value} {t t' : TypeId} (h : Hb2 w (.cells #[v] t (0, 0)) (.cells #[a, b, c, d, e, f, g] t' (0, 0)) W) :
  W.cell? ⟨w.heap.size, 0, none⟩ = some v ∧ W.cell? ⟨w.heap.size + 1, 0, none⟩ = some a ∧ W.cell? ⟨w.heap.size + 1, 1, none⟩ = some b ∧ W.cell? ⟨w.heap.size + 1, 2, none⟩ = some c ∧ W.cell? ⟨w.heap.size + 1, 3, none⟩ = some d ∧ W.cell? ⟨w.heap.size + 1, 4, none⟩ = some e ∧ W.cell? ⟨w.heap.size + 1, 5, none⟩ = some f ∧ W.cell? ⟨w.heap.size + 1, 6, none⟩ = some g :=
 ⟨by simp [World.cell?, h.1], by simp [World.cell?, h.2.1], by simp [World.cell?, h.2.1], by simp [World.cell?, h.2.1], by simp [World.cell?, h.2.1], by simp [World.cell?, h.2.1], by simp [World.cell?, h.2.1], by simp [World.cell?, h.2.1]⟩

set_option maxHeartbeats 8000000 in
set_option maxRecDepth 100000 in
theorem rright_any (A : Option Addr) (n c : Nat) (cc : Int) (x : Ou) (w : World) (h : RI w.heap.size x.pv x.ps w) :
  Calls Try.prog 117 #[.agg #[.slice A n c], .int .i64 cc, ouV x] w fun e w' => e = .returned (.bool (ouB x && intoB x.into cc n)) ∧ Below w.heap.size w w' := by
 obtain ⟨id, into, Ap, ca, ps, k0, k1, s0, s1⟩ := x
 have CI := Lib.hid fun W => within_any id 1 1099511627776 W
 have CK := Lib.hid fun W => rflows_any k0 k1 W
 have CL := Lib.hid fun W => rflows_any s0 s1 W
 obtain ⟨i, hi⟩ : ∃ i, inB 1 1099511627776 id = i := ⟨_, rfl⟩
 obtain ⟨q, hq⟩ : ∃ q, spB 0 1048576 k0 k1 = q := ⟨_, rfl⟩
 obtain ⟨r, hr⟩ : ∃ r, spB 0 1048576 s0 s1 = r := ⟨_, rfl⟩
 have HR : Hid ((ouB ⟨id, into, Ap, ca, ps, k0, k1, s0, s1⟩ && intoB into cc n) = ((i && (psB ps && (q && r))) && intoB into cc n)) := Lib.hid (by rw [← hi, ← hq, ← hr]; rfl)
 rw [hi] at CI
 rw [hq] at CK
 rw [hr] at CL
 generalize hz : (ouB ⟨id, into, Ap, ca, ps, k0, k1, s0, s1⟩ && intoB into cc n) = z at HR ⊢
 obtain ⟨Ap', ca', e, n1, hx⟩ := (show RI w.heap.size (.slice Ap ps.length ca) ps w from h)
 obtain ⟨rfl, rfl⟩ : Ap = Ap' ∧ ca = ca' := by simpa using e
 have HX := Lib.hid hx
 clear e
 have S0 := Lib.hid (Hb2.new w (wBlk A n c) (oBlk id into (.slice Ap ps.length ca) k0 k1 s0 s1))
 clear h hi hq hr hz hx
 go_enter Try.func117, Try.ntmps117
 go_wp2_with fail
 refine (CI.out _).mono ?_
 rintro e w1 ⟨rfl, b1⟩
 have S := Lib.hid (S0.out.below b1)
 clear b1 S0
 obtain ⟨t0, t1, t2, t3, t4, t5, t6, t7⟩ := cells8 S.out
 go_wp2_with fail
 refine (CK.out _).mono ?_
 rintro e w2 ⟨rfl, b1⟩
 have S := Lib.hid (S.out.below b1)
 clear b1 t0 t1 t2 t3 t4 t5 t6 t7
 obtain ⟨t0, t1, t2, t3, t4, t5, t6, t7⟩ := cells8 S.out
 go_wp2_with fail
 refine (CL.out _).mono ?_
 rintro e w3 ⟨rfl, b1⟩
 have S := Lib.hid (S.out.below b1)
 clear b1 t0 t1 t2 t3 t4 t5 t6 t7
 obtain ⟨t0, t1, t2, t3, t4, t5, t6, t7⟩ := cells8 S.out
 have hno : ∀ W, Below w3.heap.size w3 W → True := fun _ _ => trivial
 cases i
 ·have HF : Hid (false = z) := Lib.hid (by rw [HR.out]; rfl)
  go_wp2_with fail
  go_ret
  exact ⟨ret_bool HF.out, S.out.bel⟩
 cases q
 ·have HF : Hid (false = z) := Lib.hid (by rw [HR.out]; simp)
  go_wp2_with fail
  go_ret
  exact ⟨ret_bool HF.out, S.out.bel⟩
 cases r
 ·have HF : Hid (false = z) := Lib.hid (by rw [HR.out]; simp)
  go_wp2_with fail
  go_ret
  exact ⟨ret_bool HF.out, S.out.bel⟩
 have hs : (ps.length : Int) < 1 ∨ (1 ≤ (ps.length : Int) ∧ 8 < (ps.length : Int)) ∨ (1 ≤ (ps.length : Int) ∧ (ps.length : Int) ≤ 8) := by omega
 rcases hs with a1 | ⟨a1, a2⟩ | ⟨a1, a2⟩
 ·have HF : Hid (false = z) := Lib.hid (by rw [HR.out]; unfold psB; rw [decide_eq_false (by omega)]; rfl)
  go_wp2_with fail
  go_ret
  exact ⟨ret_bool HF.out, S.out.bel⟩
 ·have HF : Hid (false = z) := Lib.hid (by rw [HR.out]; unfold psB; rw [decide_eq_false (p := ps.length ≤ 8) (by omega)]; simp)
  go_wp2_with fail
  go_ret
  exact ⟨ret_bool HF.out, S.out.bel⟩
 have HG : Hid (psB ps = psGo (-1) ps) := Lib.hid (by unfold psB; rw [decide_eq_true (p := 1 ≤ ps.length) (by omega), decide_eq_true (p := ps.length ≤ 8) (by omega)]; rfl)
 have hs : (¬ into = -1 ∧ into ≤ cc) ∨ (¬ into = -1 ∧ cc < into ∧ (n : Int) ≤ into) ∨ (into = -1 ∨ (¬ into = -1 ∧ cc < into ∧ into < (n : Int))) := by omega
 rcases hs with ⟨a3, a4⟩ | ⟨a3, a4, a5⟩ | hgood
 ·have HF : Hid (false = z) := Lib.hid (by rw [HR.out, show intoB into cc n = false by rw [Bool.eq_false_iff, Ne, intoB_iff]; omega]; simp)
  have e3 : (into != -1) = true := by rw [bne_iff_ne]; exact a3
  go_wp2_with fail
  go_ret
  exact ⟨ret_bool HF.out, S.out.bel⟩
 ·have HF : Hid (false = z) := Lib.hid (by rw [HR.out, show intoB into cc n = false by rw [Bool.eq_false_iff, Ne, intoB_iff]; omega]; simp)
  have e3 : (into != -1) = true := by rw [bne_iff_ne]; exact a3
  go_wp2_with fail
  go_ret
  exact ⟨ret_bool HF.out, S.out.bel⟩
 ·have HZ : Hid (z = psGo (-1) ps) := Lib.hid (by rw [HR.out, HG.out, show intoB into cc n = true by rw [intoB_iff]; omega]; simp)
  have e3 : ((into != -1) = false) ∨ ((into != -1) = true ∧ cc < into ∧ into < (n : Int)) := by
   rcases hgood with a3 | ⟨a3, a4, a5⟩
   ·left; rw [a3]; rfl
   ·right; exact ⟨by rw [bne_iff_ne]; exact a3, a4, a5⟩
  clear hgood HR HG
  rcases e3 with a3 | ⟨a3, a4, a5⟩
  all_goals
   go_wp2_with fail
   clear a3
   go_loopw [10, 11] (fun v u wr => ∃ (k : Nat) (last : Int), u = .int .i64 k ∧ k ≤ ps.length ∧ v = .int .i64 last ∧ z = psGo last (ps.drop k) ∧ wr = w3) (fun _ u _ => ps.length - (intOf u).toNat)
   case atStart => exact ⟨0, -1, rfl, by omega, rfl, HZ.out, rfl⟩
   case round =>
    obtain ⟨k, last, rfl, hk, rfl, hg, rfl⟩ := hrel
    by_cases hkl : k < ps.length
    ·obtain ⟨b, o, rfl, hbB, hcs⟩ := HX.out (by omega)
     have hk0 : (k : Int) < (ps.length : Int) := by omega
     obtain ⟨m, hm⟩ : ∃ m, ps[k]? = some m := ⟨_, List.getElem?_eq_getElem hkl⟩
     have d0 := (S.out.bel.cell (p := ⟨b, o + k, none⟩) hbB).trans (hcs k m hm)
     have HG2 : Hid (z = (decide (last < m) && (decide (m ≤ 1048576) && psGo m (ps.drop (k + 1))))) := Lib.hid (by rw [hg, psGo_drop hm])
     clear hg hm hcs
     by_cases c1 : m ≤ last
     ·have HF : Hid (false = z) := Lib.hid (by rw [HG2.out, decide_eq_false (by omega)]; rfl)
      go_wp2_with fail
      go_ret
      exact ⟨ret_bool HF.out, S.out.bel⟩
     ·by_cases c2 : 1048576 < m
      ·have HF : Hid (false = z) := Lib.hid (by rw [HG2.out, decide_eq_false (p := m ≤ 1048576) (by omega)]; simp)
       go_wp2_with fail
       go_ret
       exact ⟨ret_bool HF.out, S.out.bel⟩
      ·have HR2 : Hid (z = psGo m (ps.drop (k + 1))) := Lib.hid (by rw [HG2.out, decide_eq_true (by omega), decide_eq_true (by omega)]; rfl)
       go_wp2_with fail
       go_roundw
       case rel => exact ⟨k + 1, m, by go_num, by omega, rfl, HR2.out, by first | rfl | trivial⟩
       case measure => show ps.length - ((k : Int) + 1).toNat < ps.length - (k : Int).toNat; omega
    ·have hk0 : (ps.length : Int) ≤ (k : Int) := by omega
     have HT : Hid (true = z) := Lib.hid (by rw [hg, List.drop_eq_nil_of_le (by omega)]; rfl)
     clear hg
     go_wp2_with fail
     go_ret
     exact ⟨ret_bool HT.out, S.out.bel⟩
end Go.Proofs.Ytkoacclbempmdaa

/- Rows of elements of whatever kind: how they read, and lists of one's own that grow. -/
namespace Go.Proofs.Ytkoacclbempmdaa
open Go.RowKit

/-- An append of a list that may be empty, onto a row of one's own. -/
theorem app_row {P : Program} (w : World) (base : Nat) (t ty e : TypeId) (i : TypeInfo) (z : Value) (size bytes : Nat) (ht : P.underlying t = some (.slice e)) (hi : P.info? e = some i) (hz : i.zero = some z)
  (hsize : i.size = size) (hby : i.bytes = bytes) (hzs : z.cells.size = size) (hsz : 0 < size)
  (v : Value) (n : Nat) (xs : List Value) (hown : w.ownsRow base e size v n xs)
  (A : Option Addr) (m c : Nat) (news : List Value) (hl : news.length = m * size) (hnews : 0 < m → ∃ a, A = some a ∧ ∀ j u, news[j]? = some u → w.cell? (a.add j) = some u) (h1 : ∀ u ∈ news, u.oneCell' = true)
  (h63 : n + m ≤ maxLen) (hbytes : (n + m) * bytes ≤ 140737488355328) (hbase : base ≤ w.heap.size) :
  ∃ v' w', (Builtin.append_ #[t, t] ty #[v, .slice A m c]).run P w = .ok v' w' ∧ w'.ownsRow base e size v' (n + m) (xs ++ news) ∧ w.grownBy w' v.ownBlock ∧ (v'.ownBlock = v.ownBlock ∨ v'.ownBlock = some w.heap.size) := by
 rcases Nat.eq_zero_or_pos m with rfl | hm
 ·have hn : news = [] := List.eq_nil_of_length_eq_zero (by simpa using hl)
  subst hn
  have hfc : (Builtin.firstCells size 0 (.slice A 0 c)).run P w = .ok #[] w := by
   cases A with
   | none => exact run_firstCells_none w size 0 0 c
   | some a => exact run_firstCells_some w size 0 a 0 c [] (by simp) (fun j v hj => by simp at hj)
  refine ⟨v, w, ?_, by simpa using hown, ⟨rfl, rfl, rfl, Nat.le_refl _, fun _ _ _ => rfl⟩, .inl rfl⟩
  rcases hown.2 with ⟨rfl, rfl⟩ | ⟨g, cap, cur, rfl, hbg, hg, hnc, hcm, hcs, htake⟩
  ·simp [Builtin.append_, run_underlying ht, sizeOf, typeInfo, hi, Builtin.lenOf, hsize, hfc]
  ·simp [Builtin.append_, run_underlying ht, sizeOf, typeInfo, hi, Builtin.lenOf, hsize, hfc, hnc, storeCells]
 ·obtain ⟨a, rfl, hc⟩ := hnews hm
  obtain ⟨v', w', h2, h3, h4, _, h5⟩ := run_append_own_at (P := P) w base t ty e i z size bytes ht hi hz hsize hby hzs hsz v n xs hown a m c news hl hc h1 h63 hbytes hbase
  exact ⟨v', w', h2, h3, h4, h5⟩

theorem addr_add (b o j : Nat) : (⟨b, o, none⟩ : Addr).add j = ⟨b, o + j, none⟩ := by
 unfold Addr.add
 split
 ·rename_i h; subst h; rfl
 ·rfl
theorem GrownL.of_row {w w' : World} {row : Option Nat} (h : w.grownBy w' row) : GrownL row.toList w w' :=
 ⟨h.os, h.tape, h.output, h.size, fun k hk hn => h.block k hk (fun e => hn (by simp [← e]))⟩
theorem ownsRow_grownL {W W' : World} {base : Nat} {e : TypeId} {size n : Nat} {v : Value} {xs : List Value} {bs : List Nat} (h : W.ownsRow base e size v n xs) (hg : GrownL bs W W') (hn : ∀ g, v.ownBlock = some g → g ∉ bs) : W'.ownsRow base e size v n xs := by
 refine ⟨h.1, ?_⟩
 rcases h.2 with h' | ⟨g, cap, cur, rfl, hb, hgb, r⟩
 ·exact .inl h'
 ·exact .inr ⟨g, cap, cur, rfl, hb, (hg.block g (Array.getElem?_eq_some_iff.1 hgb).1 (hn g rfl)).trans hgb, r⟩

section
variable {α : Type}
/-- How an element lies in a row: s cells, each of one value. -/
structure Enc (enc : α → List Value) (s : Nat) : Prop where
 pos : 0 < s
 len : ∀ x, (enc x).length = s
 one : ∀ x, ∀ u ∈ enc x, u.oneCell' = true
variable {enc : α → List Value} {s : Nat}
theorem Enc.size (E : Enc enc s) : ∀ (l : List α), (l.flatMap enc).length = l.length * s
 | [] => by simp
 | x :: l => by rw [List.flatMap_cons, List.length_append, E.len, E.size l, List.length_cons, Nat.add_mul]; omega
theorem Enc.at_ (E : Enc enc s) : ∀ (l : List α) (k i : Nat) (x : α), l[k]? = some x → i < s → (l.flatMap enc)[k * s + i]? = (enc x)[i]?
 | [], _, _, _, h, _ => by simp at h
 | y :: l, 0, i, x, h, hi => by
  simp at h
  subst h
  rw [List.flatMap_cons, Nat.zero_mul, Nat.zero_add, List.getElem?_append_left (by rw [E.len]; exact hi)]
 | y :: l, k + 1, i, x, h, hi => by
  rw [List.flatMap_cons, List.getElem?_append_right (by rw [E.len, Nat.add_mul]; omega), E.len, show (k + 1) * s + i - s = k * s + i by rw [Nat.add_mul]; omega]
  exact E.at_ l k i x (by simpa using h) hi
theorem Enc.inv (E : Enc enc s) {l : List α} {j : Nat} {u : Value} (h : (l.flatMap enc)[j]? = some u) : ∃ k i x, l[k]? = some x ∧ i < s ∧ j = k * s + i ∧ (enc x)[i]? = some u := by
 have hj : j < l.length * s := by rw [← E.size]; exact (List.getElem?_eq_some_iff.1 h).1
 have hk : j / s < l.length := (Nat.div_lt_iff_lt_mul E.pos).2 hj
 have hi : j % s < s := Nat.mod_lt _ E.pos
 have e : j = j / s * s + j % s := by rw [Nat.mul_comm]; exact (Nat.div_add_mod j s).symm
 refine ⟨j / s, j % s, l[j / s], List.getElem?_eq_getElem hk, hi, e, ?_⟩
 rw [← E.at_ l (j / s) (j % s) _ (List.getElem?_eq_getElem hk) hi, ← e]
 exact h
theorem Enc.ones (E : Enc enc s) (l : List α) : ∀ u ∈ l.flatMap enc, u.oneCell' = true := fun u hu => by
 obtain ⟨x, -, h⟩ := List.mem_flatMap.1 hu
 exact E.one x u h
/-- A slice that reads as a list, below block B. -/
def RR (enc : α → List Value) (B : Nat) (v : Value) (l : List α) (w : World) : Prop :=
 ∃ A c, v = .slice A l.length c ∧ Fits l.length ∧ (0 < l.length → ∃ b o, A = some ⟨b, o, none⟩ ∧ b < B ∧ ∀ j u, (l.flatMap enc)[j]? = some u → w.cell? ⟨b, o + j, none⟩ = some u)
section
variable {B B' : Nat} {v : Value} {l : List α} {w w' : World}
theorem RR.up (h : RR enc B v l w) (hB : B ≤ B') (hb : Below B w w') : RR enc B' v l w' := by
 obtain ⟨A, c, e, hl, hc⟩ := h
 refine ⟨A, c, e, hl, fun hp => ?_⟩
 obtain ⟨b, o, e2, hlt, k⟩ := hc hp
 exact ⟨b, o, e2, Nat.lt_of_lt_of_le hlt hB, fun j u hj => (hb.cell (p := ⟨b, o + j, none⟩) hlt).trans (k j u hj)⟩
theorem RR.grown {bs : List Nat} (h : RR enc w.heap.size v l w) (hg : GrownL bs w w') (hn : ∀ g, v.ownBlock = some g → g ∉ bs) : RR enc w'.heap.size v l w' := by
 obtain ⟨A, c, e, hl, hc⟩ := h
 refine ⟨A, c, e, hl, fun hp => ?_⟩
 obtain ⟨b, o, rfl, hlt, k⟩ := hc hp
 subst e
 exact ⟨b, o, rfl, Nat.lt_of_lt_of_le hlt hg.size, fun j u hj => hg.cell (p := ⟨b, o + j, none⟩) (k j u hj) (hn b rfl)⟩
theorem RR.slice (h : RR enc B v l w) : ∃ A c, v = .slice A l.length c := by obtain ⟨A, c, e, _⟩ := h; exact ⟨A, c, e⟩
theorem RR.at_ (E : Enc enc s) (h : RR enc B v l w) {k : Nat} {x : α} (hk : l[k]? = some x) : ∃ b o c, v = .slice (some ⟨b, o, none⟩) l.length c ∧ b < B ∧ ∀ i u, (enc x)[i]? = some u → w.cell? ⟨b, o + k * s + i, none⟩ = some u := by
 obtain ⟨A, c, e, hl, hc⟩ := h
 obtain ⟨b, o, rfl, hlt, q⟩ := hc (by have := (List.getElem?_eq_some_iff.1 hk).1; omega)
 refine ⟨b, o, c, e, hlt, fun i u hi => ?_⟩
 have his : i < s := by rw [← E.len x]; exact (List.getElem?_eq_some_iff.1 hi).1
 rw [Nat.add_assoc]
 exact q _ u (by rw [E.at_ l k i x hk his]; exact hi)
theorem rr_nil (enc : α → List Value) (B : Nat) (w : World) : RR enc B (.slice none 0 0) [] w := ⟨none, 0, rfl, by simp, fun h => by simp at h⟩
end
/-- A list of one's own, in a row that was made from base on. -/
def OwnG (enc : α → List Value) (s : Nat) (e : TypeId) (base : Nat) (v : Value) (l : List α) (W : World) : Prop := W.ownsRow base e s v l.length (l.flatMap enc)
section
variable {e : TypeId} {base base' : Nat} {v : Value} {l : List α} {W W' : World}
theorem OwnG.nil (enc : α → List Value) (s : Nat) (e : TypeId) (base : Nat) (W : World) : OwnG enc s e base (.slice none 0 0) [] W := World.ownsRow_nil _ _ _ _
theorem OwnG.grown {bs : List Nat} (h : OwnG enc s e base v l W) (hg : GrownL bs W W') (hn : ∀ g, v.ownBlock = some g → g ∉ bs) : OwnG enc s e base v l W' := ownsRow_grownL h hg hn
theorem OwnG.below (h : OwnG enc s e base v l W) (hb : Below W.heap.size W W') : OwnG enc s e base v l W' := h.grown (GrownL.of_below (bs := []) hb) (by simp)
theorem OwnG.lt (h : OwnG enc s e base v l W) : ∀ g, v.ownBlock = some g → base ≤ g ∧ g < W.heap.size := World.ownsRow.lt h
theorem OwnG.low (h : OwnG enc s e base v l W) (hb : base' ≤ base) : OwnG enc s e base' v l W := by
 refine ⟨h.1, ?_⟩
 rcases h.2 with h | ⟨g, cap, cur, e, h1, h2⟩
 ·exact .inl h
 ·exact .inr ⟨g, cap, cur, e, by omega, h2⟩
theorem OwnG.form (h : OwnG enc s e base v l W) : ∃ A c, v = .slice A l.length c ∧ (0 < l.length → ∃ g, A = some ⟨g, 0, none⟩) := by
 rcases h.2 with ⟨rfl, h0⟩ | ⟨g, cap, cur, rfl, _⟩
 ·exact ⟨none, 0, by rw [h0], fun h => by omega⟩
 ·exact ⟨_, _, rfl, fun _ => ⟨_, rfl⟩⟩
theorem OwnG.rr (E : Enc enc s) (h : OwnG enc s e base v l W) (hl : Fits l.length) : RR enc W.heap.size v l W := by
 rcases h.2 with ⟨rfl, h0⟩ | ⟨g, cap, cur, rfl, hb, hgb, r⟩
 ·exact ⟨none, 0, by rw [h0], hl, fun hp => by omega⟩
 ·refine ⟨_, cap, rfl, hl, fun hp => ⟨g, 0, rfl, (Array.getElem?_eq_some_iff.1 hgb).1, fun j u hj => ?_⟩⟩
  have hj' : j < l.length * s := by rw [← E.size]; exact (List.getElem?_eq_some_iff.1 hj).1
  rw [Nat.zero_add]
  exact (World.ownsRow.cellAt h j hj').trans hj
end
/-- A list that reads is appended to one of one's own. -/
theorem app_list {P : Program} (E : Enc enc s) {w W : World} {base n c : Nat} {v : Value} {xs ys : List α} {A : Option Addr} {t e : TypeId} {i : TypeInfo} {z : Value} {bytes : Nat} (ht : P.underlying t = some (.slice e)) (hi : P.info? e = some i) (hz : i.zero = some z)
  (hsize : i.size = s) (hby : i.bytes = bytes) (hzs : z.cells.size = s) (hv : OwnG enc s e base v xs W) (hy : RR enc w.heap.size (.slice A n c) ys w) (hb : Below w.heap.size w W) (hbase : base ≤ W.heap.size) (h1 : xs.length ≤ 1000000) (h2 : ys.length ≤ 1000000) (h3 : bytes ≤ 1000) :
  ∃ v' W', (Builtin.append_ #[t, t] t #[v, .slice A n c]).run P W = .ok v' W' ∧ OwnG enc s e base v' (xs ++ ys) W' ∧ GrownL v.ownBlock.toList W W' ∧ base ≤ W'.heap.size := by
 obtain ⟨A', c', e', -, ha⟩ := hy
 simp only [Value.slice.injEq] at e'
 obtain ⟨rfl, rfl, rfl⟩ := e'
 have hmul : (xs.length + ys.length) * bytes ≤ 140737488355328 := Nat.le_trans (Nat.mul_le_mul (show xs.length + ys.length ≤ 2000000 by omega) h3) (by decide)
 obtain ⟨v', W', k1, k2, k3, k4⟩ := app_row (P := P) W base t t e i z s bytes ht hi hz hsize hby hzs E.pos v xs.length (xs.flatMap enc) hv A ys.length c (ys.flatMap enc) (E.size ys) (fun hp => by
  obtain ⟨b, o, rfl, hlt, q⟩ := ha hp
  exact ⟨_, rfl, fun j u hj => by rw [addr_add]; exact (hb.cell (p := ⟨b, o + j, none⟩) hlt).trans (q j u hj)⟩) (E.ones ys) (by unfold maxLen; omega) hmul hbase
 refine ⟨v', W', k1, ?_, GrownL.of_row k3, Nat.le_trans hbase k3.size⟩
 unfold OwnG
 rw [List.flatMap_append, List.length_append]
 exact k2
end

/-- Numbers, outlets, places, spans, as they lie in rows. -/
def encI (n : Int) : List Value := [.int .i64 n]
def encO (x : Ou) : List Value := [.int .i64 x.id, .int .i64 x.into, x.pv, .int .i64 x.k0, .int .i64 x.k1, .int .i64 x.s0, .int .i64 x.s1]
def enc2 (x : Int × Int) : List Value := [.int .i64 x.1, .int .i64 x.2]
theorem EI : Enc encI 1 := ⟨by decide, fun _ => rfl, fun x u hu => by simp [encI] at hu; subst hu; rfl⟩
theorem E2 : Enc enc2 2 := ⟨by decide, fun _ => rfl, fun x u hu => by simp [enc2] at hu; rcases hu with rfl | rfl <;> rfl⟩
theorem EO : Enc encO 7 := ⟨by decide, fun _ => rfl, fun x u hu => by simp [encO] at hu; rcases hu with rfl | rfl | rfl | rfl | rfl | rfl | rfl <;> rfl⟩
/-- Outlets in a list, whose boards read below block B. -/
theorem RO.rr {B : Nat} {v : Value} {l : List Ou} {w : World} (h : RO B v l w) : RR encO B v l w ∧ ∀ x ∈ l, RI B x.pv x.ps w := by
 obtain ⟨A, c, e, hl, hc⟩ := h
 refine ⟨⟨A, c, e, hl, fun hp => ?_⟩, fun x hx => ?_⟩
 ·obtain ⟨b, o, rfl, hlt, q⟩ := hc hp
  refine ⟨b, o, rfl, hlt, fun j u hj => ?_⟩
  obtain ⟨k, i, x, hk, hi, rfl, hu⟩ := EO.inv hj
  obtain ⟨h0, h1, h2, h3, h4, h5, h6, h7⟩ := q k x hk
  match i, hi with
  | 0, _ => cases hu; exact h0
  | 1, _ => cases hu; exact h1
  | 2, _ => cases hu; exact h2
  | 3, _ => cases hu; exact h4
  | 4, _ => cases hu; exact h5
  | 5, _ => cases hu; exact h6
  | 6, _ => cases hu; exact h7
 ·obtain ⟨k, hk⟩ := List.mem_iff_getElem?.1 hx
  obtain ⟨b, o, -, -, q⟩ := hc (by have := (List.getElem?_eq_some_iff.1 hk).1; omega)
  exact (q k x hk).ps
theorem RO.of_rr {B : Nat} {v : Value} {l : List Ou} {w : World} (h : RR encO B v l w) (hp : ∀ x ∈ l, RI B x.pv x.ps w) : RO B v l w := by
 obtain ⟨A, c, e, hl, hc⟩ := h
 refine ⟨A, c, e, hl, fun hp' => ?_⟩
 obtain ⟨b, o, rfl, hlt, q⟩ := hc hp'
 refine ⟨b, o, rfl, hlt, fun k x hk => ?_⟩
 have at_ : ∀ i u, (encO x)[i]? = some u → w.cell? ⟨b, o + (k * 7 + i), none⟩ = some u := fun i u hi => q _ u (by
  rw [EO.at_ l k i x hk (by have := (List.getElem?_eq_some_iff.1 hi).1; simpa [encO] using this)]
  exact hi)
 exact ⟨at_ 0 _ rfl, at_ 1 _ rfl, at_ 2 _ rfl, hp x (List.mem_of_getElem? hk), at_ 3 _ rfl, at_ 4 _ rfl, at_ 5 _ rfl, at_ 6 _ rfl⟩
end Go.Proofs.Ytkoacclbempmdaa

/- Contracts of the specification's lists of outlets and of places. -/
namespace Go.Proofs.Ytkoacclbempmdaa
open Go.RowKit

theorem infoOutlet : (Try.prog.info? 42).map (fun i => (i.zero, i.size, i.bytes)) = some (some (.agg #[.int .i64 0, .int .i64 0, .slice none 0 0, .int .i64 0, .int .i64 0, .int .i64 0, .int .i64 0]), 7, 72) := by kernel_rfl
theorem infoPlace : (Try.prog.info? 169).map (fun i => (i.zero, i.size, i.bytes)) = some (some (.agg #[.int .i64 0, .int .i64 0]), 2, 16) := by kernel_rfl
theorem Wd.grown {w W W' : World} {v : Value} {bs : List Nat} (h : Wd w v W) (hg : GrownL bs W W') (hn : ∀ b ∈ bs, w.heap.size + 1 ≤ b) : Wd w v W' :=
 ⟨hg.cell h.1 (fun hm => by have := hn _ hm; simp at this; omega), Nat.lt_of_lt_of_le h.2.1 hg.size, h.2.2.trans (hg.below (fun b hb => by have := hn b hb; omega) h.siz)⟩
theorem flat_take {ws : Wk} {k : Nat} {os : List Ou} (h : ws[k]? = some os) : (ws.take (k + 1)).flatten = (ws.take k).flatten ++ os := by
 obtain ⟨h1, h2⟩ := List.getElem?_eq_some_iff.1 h
 rw [List.take_succ_eq_append_getElem h1, h2]
 simp
theorem flat_len (ws : Wk) (k : Nat) : ((ws.take k).flatten).length = pre ws k := by simp [pre, List.length_flatten]

set_option maxHeartbeats 8000000 in
set_option maxRecDepth 1000000 in
theorem routlets_any (A : Option Addr) (n c : Nat) (ws : Wk) (w : World) (h : RK w.heap.size (.slice A n c) ws w) (ht : total ws ≤ 100000) :
  Calls Try.prog 106 #[.agg #[.slice A n c]] w fun e w' => ∃ v, e = .returned v ∧ OwnG encO 7 42 w.heap.size v (outs ws) w' ∧ Below w.heap.size w w' := by
 obtain ⟨i0, hi, hz0, hz1, hz2⟩ := info_parts infoOutlet
 obtain ⟨A0, c0, e0, n1, hx⟩ := h
 obtain ⟨rfl, rfl, rfl⟩ : A = A0 ∧ n = ws.length ∧ c = c0 := by simpa using e0
 have HX := Lib.hid hx
 have S0 := Lib.hid (Wd.new (w := w) (v := .slice A ws.length c) 24)
 clear hx e0
 go_enter Try.func106, Try.ntmps106
 go_wp2_with fail
 go_loopw [3, 4] (fun o u wr => ∃ k : Nat, u = .int .i64 k ∧ k ≤ ws.length ∧ OwnG encO 7 42 (w.heap.size + 1) o ((ws.take k).flatten) wr ∧ Wd w (.slice A ws.length c) wr) (fun _ u _ => ws.length - (intOf u).toNat)
 case atStart => exact ⟨0, rfl, by omega, OwnG.nil _ _ _ _ _, S0.out⟩
 case round =>
  obtain ⟨k, rfl, hk, hO, hS⟩ := hrel
  have S := Lib.hid hS
  have HO := Lib.hid hO
  obtain ⟨Av, cv, rfl, -⟩ := hO.form
  have t0 := hS.c
  clear hS hO S0
  by_cases hkl : k < ws.length
  ·obtain ⟨b, o, rfl, hbB, hcs⟩ := HX.out (by omega)
   have hk0 : (k : Int) < (ws.length : Int) := by omega
   obtain ⟨os, hos⟩ : ∃ os, ws[k]? = some os := ⟨_, List.getElem?_eq_getElem hkl⟩
   obtain ⟨u, hu, hr⟩ := hcs k os hos
   obtain ⟨A1, c1, rfl⟩ := hr.slice
   have d0 := (S.out.bel.cell (p := ⟨b, o + k, none⟩) hbB).trans hu
   have hp : pre ws (k + 1) ≤ total ws := pre_le ws (k + 1)
   rw [pre_succ hos] at hp
   obtain ⟨v', W', r1, o1, g1, s1⟩ := app_list (P := Try.prog) EO Try.underlying36 hi hz0 hz1 hz2 rfl HO.out hr.rr.1 S.out.bel (by have := S.out.2.1; omega) (by rw [flat_len]; omega) (by omega) (by decide)
   rw [← flat_take hos] at o1
   have R1 := Lib.hid r1
   have HO1 := Lib.hid o1
   have SS := Lib.hid (S.out.grown g1 (fun b hb => (HO.out.lt b (by simpa using hb)).1))
   clear hu hr hos hcs r1 o1 g1 s1 hp
   go_wp2_with (at_builtin; refine Lib.wpList_append_run _ rfl _ _ _ _ rfl _ _ rfl rfl v' W' R1.out ?_)
   go_roundw
   case rel => exact ⟨k + 1, by go_num, by omega, HO1.out, SS.out⟩
   case measure => show ws.length - ((k : Int) + 1).toNat < ws.length - (k : Int).toNat; omega
  ·have hk0 : (ws.length : Int) ≤ (k : Int) := by omega
   have HE : Hid ((ws.take k).flatten = outs ws) := Lib.hid (by rw [outs_flatten, List.take_of_length_le (by omega)])
   rw [HE.out] at HO ⊢
   go_wp2_with fail
   go_ret
   exact ⟨_, rfl, OwnG.low (base := w.heap.size + 1) (base' := w.heap.size) HO.out (Nat.le_succ _), S.out.bel⟩

/-- Where the outlets lie, as pairs. -/
def plL (ws : Wk) : List (Int × Int) := (allP ws).map fun p => ((p.c : Int), (p.n : Int))
theorem plL_len (ws : Wk) : (plL ws).length = total ws := by simp [plL, allP_len]
theorem plL_at {ws : Wk} {c n : Nat} {os : List Ou} {o : Ou} (h : ws[c]? = some os) (h' : os[n]? = some o) : (plL ws)[pre ws c + n]? = some ((c : Int), (n : Int)) := by
 unfold plL
 rw [List.getElem?_map, allP_get h h']
 rfl
theorem take_at {α : Type} {l : List α} {i : Nat} {x : α} (h : l[i]? = some x) : l.take (i + 1) = l.take i ++ [x] := by
 obtain ⟨h1, h2⟩ := List.getElem?_eq_some_iff.1 h
 rw [List.take_succ_eq_append_getElem h1, h2]

set_option maxHeartbeats 8000000 in
set_option maxRecDepth 1000000 in
theorem rplaces_any (A : Option Addr) (n c : Nat) (ws : Wk) (w : World) (h : RK w.heap.size (.slice A n c) ws w) (ht : total ws ≤ 100000) :
  Calls Try.prog 116 #[.agg #[.slice A n c]] w fun e w' => ∃ v, e = .returned v ∧ OwnG enc2 2 169 w.heap.size v (plL ws) w' ∧ Below w.heap.size w w' := by
 obtain ⟨i0, hi, hz0, hz1, hz2⟩ := info_parts infoPlace
 obtain ⟨A0, c0, e0, n1, hx⟩ := h
 obtain ⟨rfl, rfl, rfl⟩ : A = A0 ∧ n = ws.length ∧ c = c0 := by simpa using e0
 have HX := Lib.hid hx
 have S0 := Lib.hid (Wd.new (w := w) (v := .slice A ws.length c) 24)
 clear hx e0
 go_enter Try.func116, Try.ntmps116
 go_wp2_with fail
 go_loopw [3, 4] (fun o u wr => ∃ k : Nat, u = .int .i64 k ∧ k ≤ ws.length ∧ OwnG enc2 2 169 (w.heap.size + 1) o ((plL ws).take (pre ws k)) wr ∧ Wd w (.slice A ws.length c) wr) (fun _ u _ => ws.length - (intOf u).toNat)
 case atStart => exact ⟨0, rfl, by omega, by rw [pre_zero]; exact OwnG.nil _ _ _ _ _, S0.out⟩
 case round =>
  obtain ⟨k, rfl, hk, hO, hS⟩ := hrel
  have S := Lib.hid hS
  have HO := Lib.hid hO
  have t0 := hS.c
  clear hS hO S0
  by_cases hkl : k < ws.length
  ·obtain ⟨b, o0, rfl, hbB, hcs⟩ := HX.out (by omega)
   have hk0 : (k : Int) < (ws.length : Int) := by omega
   obtain ⟨os, hos⟩ : ∃ os, ws[k]? = some os := ⟨_, List.getElem?_eq_getElem hkl⟩
   obtain ⟨u, hu, hr⟩ := hcs k os hos
   obtain ⟨A1, c1, rfl⟩ := hr.slice
   have HU := Lib.hid hu
   have HOS := Lib.hid hos
   have hp : pre ws (k + 1) ≤ total ws := pre_le ws (k + 1)
   rw [pre_succ hos] at hp
   have HP : Hid (pre ws k + os.length ≤ 100000) := Lib.hid (by omega)
   clear hu hr hos hcs hp
   go_wp2_with fail
   clear t0
   go_loopw [3, 5] (fun o u wi => ∃ j : Nat, u = .int .i64 j ∧ j ≤ os.length ∧ OwnG enc2 2 169 (w.heap.size + 1) o ((plL ws).take (pre ws k + j)) wi ∧ Wd w (.slice (some ⟨b, o0, none⟩) ws.length c) wi) (fun _ u _ => os.length - (intOf u).toNat)
   case atStart => exact ⟨0, rfl, by omega, HO.out, S.out⟩
   case round =>
    obtain ⟨j, rfl, hj, hO, hS⟩ := hrel
    have S := Lib.hid hS
    have HO := Lib.hid hO
    obtain ⟨Av, cv, rfl, -⟩ := hO.form
    have t0 := hS.c
    have d0 := (S.out.bel.cell (p := ⟨b, o0 + k, none⟩) hbB).trans HU.out
    clear hS hO
    have hosb : os.length ≤ 100000 := by have := HP.out; omega
    by_cases hjl : j < os.length
    ·have hj0 : (j : Int) < (os.length : Int) := by omega
     have hat := plL_at HOS.out (List.getElem?_eq_getElem hjl)
     have hln : ((plL ws).take (pre ws k + j)).length = pre ws k + j := by
      have := (List.getElem?_eq_some_iff.1 hat).1
      rw [List.length_take]; omega
     obtain ⟨n, hn⟩ : ∃ n, pre ws k + j = n := ⟨_, rfl⟩
     have hnb : n ≤ 100000 := by have := HP.out; omega
     have HT : Hid ((plL ws).take (pre ws k + (j + 1)) = (plL ws).take n ++ [((k : Int), (j : Int))]) := Lib.hid (by rw [← hn, ← Nat.add_assoc, take_at hat])
     rw [hn] at HO hln ⊢
     have HO : Hid (wr.ownsRow (w.heap.size + 1) 169 2 (.slice Av n cv) n (((plL ws).take n).flatMap enc2)) := Lib.hid (by have := HO.out; unfold OwnG at this; rwa [hln] at this)
     have HL := Lib.hid hln
     have hbs := S.out.2.1
     have HLT := Lib.hid fun q (hq : q ∈ (Value.ownBlock (.slice Av n cv)).toList) => HO.out.lt q (by simpa using hq)
     rw [hln]
     clear hat hln hn
     go_wp2_with (at_builtin; refine wpList_append_own _ rfl _ _ 165 rfl (w.heap.size + 1) 169 i0 (.agg #[.int .i64 0, .int .i64 0]) 2 16 Try.underlying165 hi hz0 hz1 hz2 rfl (by decide) _ n _ rfl (HO.out.alloc _) ⟨wr.heap.size, 0, none⟩ 1 1 [.int .i64 k, .int .i64 j] rfl rfl ?c1 ?c2 ?c3 ?c4 ?c5 ?_)
     case c1 =>
      intro i u hi
      match i, hi with
      | 0, hi => simp at hi; subst hi; simp [go_sem, Addr.add]
      | 1, hi => simp at hi; subst hi; simp [go_sem, Addr.add]
      | i + 2, hi => simp at hi
     case c2 => intro u hu; simp at hu; rcases hu with rfl | rfl <;> rfl
     case c3 => unfold maxLen; omega
     case c4 => omega
     case c5 => simp <;> omega
     intro v' w4 hown' hgrow _
     have g1' := (GrownL.of_below ((Below.refl wr.heap.size wr).alloc (Nat.le_refl _) (.cells #[.int .i64 k, .int .i64 j] 169))).trans (GrownL.of_row hgrow)
     have R : Hid (OwnG enc2 2 169 (w.heap.size + 1) v' ((plL ws).take (pre ws k + (j + 1))) w4) := Lib.hid (by
      rw [HT.out]
      unfold OwnG
      rw [List.flatMap_append, List.length_append, HL.out]
      exact hown')
     have SS := Lib.hid (S.out.grown g1' (fun q hq => (HLT.out q hq).1))
     clear hown' hgrow g1'
     go_wp2_with fail
     go_roundw
     case rel => exact ⟨j + 1, by go_num, by omega, R.out, SS.out⟩
     case measure => show os.length - ((j : Int) + 1).toNat < os.length - (j : Int).toNat; omega
    ·have hj0 : (os.length : Int) ≤ (j : Int) := by omega
     obtain rfl : j = os.length := by omega
     rw [← pre_succ HOS.out] at HO ⊢
     go_wp2_with fail
     go_roundw
     case rel => exact ⟨k + 1, by go_num, by omega, HO.out, S.out⟩
     case measure => show ws.length - ((k : Int) + 1).toNat < ws.length - (k : Int).toNat; omega
  ·have hk0 : (ws.length : Int) ≤ (k : Int) := by omega
   have HE : Hid ((plL ws).take (pre ws k) = plL ws) := Lib.hid (by rw [List.take_of_length_le (by rw [plL_len]; unfold total; exact pre_mono (by omega))])
   rw [HE.out] at HO
   obtain ⟨Av, cv, rfl, -⟩ := HO.out.form
   go_wp2_with fail
   go_ret
   exact ⟨_, rfl, OwnG.low (base := w.heap.size + 1) (base' := w.heap.size) HO.out (Nat.le_succ _), S.out.bel⟩
end Go.Proofs.Ytkoacclbempmdaa
