/- The law TurnPeriods, its calls met by their contracts. -/
import Derived.Test.YtcdodfehnkgjdaaGreatDoorUF
import Derived.Test.YtcdodfehnkgjdaaGreatDoorYW
import Derived.Test.YtcdodfehnkgjdaaGreatDoorHB
namespace Go.Proofs.YtcdodfehnkgjdaaGreatDoor
open Go.RowKit

/-- A block of three cells. -/
def Tri (b : Nat) (x y z : Value) (W : World) : Prop := W.cell? ⟨b, 0, none⟩ = some x ∧ W.cell? ⟨b, 1, none⟩ = some y ∧ W.cell? ⟨b, 2, none⟩ = some z ∧ b < W.heap.size
theorem Tri.out {b : Nat} {x y z : Value} {W : World} (h : Tri b x y z W) : W.cell? ⟨b, 0, none⟩ = some x ∧ W.cell? ⟨b, 1, none⟩ = some y ∧ W.cell? ⟨b, 2, none⟩ = some z ∧ b < W.heap.size := h
theorem Tri.below {b : Nat} {x y z : Value} {W W' : World} (h : Tri b x y z W) (hb : Below W.heap.size W W') : Tri b x y z W' := by
  obtain ⟨h0, h1, h2, hl⟩ := h
  exact ⟨(hb.cell (p := ⟨b, 0, none⟩) hl).trans h0, (hb.cell (p := ⟨b, 1, none⟩) hl).trans h1, (hb.cell (p := ⟨b, 2, none⟩) hl).trans h2, Nat.lt_of_lt_of_le hl hb.size⟩
theorem Tri.new {W : World} {x y z : Value} (t : TypeId) : Tri W.heap.size x y z (W.alloc (.cells #[x, y, z] t)) := ⟨by simp [go_sem], by simp [go_sem], by simp [go_sem], by simp⟩
theorem RT.later {v : Value} {l : List T3} {W W' : World} (h : RT W.heap.size v l W) (hb : Below W.heap.size W W') : RT W'.heap.size v l W' := h.up hb.size hb
theorem RT.slice {B : Nat} {v : Value} {l : List T3} {W : World} (h : RT B v l W) : ∃ A n c, v = .slice A n c := by
  obtain ⟨A, c, rfl, _⟩ := h
  exact ⟨_, _, _, rfl⟩
theorem rm_of {A : Option Addr} {n c : Nat} {l : List T3} {W : World} (h : RT W.heap.size (.slice A n c) l W) : RM W.heap.size (.agg #[.slice A n c, .slice none 0 0]) l [] W :=
  ⟨A, n, c, none, 0, 0, rfl, h, rs_nil _ _⟩
def SoonPost (w : World) (e : Ending) (w' : World) : Prop := (∃ b, e = .returned (.bool b)) ∧ Below w.heap.size w w'

end Go.Proofs.YtcdodfehnkgjdaaGreatDoor

/- The law TurnUnions, its calls met by their contracts; sanity is a hypothesis here. -/
namespace Go.Proofs.YtcdodfehnkgjdaaGreatDoor
open Go.RowKit

theorem RS.later {v : Value} {l : List S2} {W W' : World} (h : RS W.heap.size v l W) (hb : Below W.heap.size W W') : RS W'.heap.size v l W' := h.up hb.size hb
theorem RS.slice {B : Nat} {v : Value} {l : List S2} {W : World} (h : RS B v l W) : ∃ A n c, v = .slice A n c := by
  obtain ⟨A, c, rfl, _⟩ := h
  exact ⟨_, _, _, rfl⟩
theorem rm_both {A B : Option Addr} {n c m d : Nat} {l : List T3} {s : List S2} {W : World} (h : RT W.heap.size (.slice A n c) l W) (h' : RS W.heap.size (.slice B m d) s W) : RM W.heap.size (.agg #[.slice A n c, .slice B m d]) l s W :=
  ⟨A, n, c, B, m, d, rfl, h, h'⟩

set_option maxHeartbeats 8000000 in
set_option maxRecDepth 100000 in
theorem unions_no (hsan : ∀ W, Calls Tryz.prog 5 #[] W fun e w' => e = .returned (.bool true) ∧ Below W.heap.size W w') (A A' B B' : Option Addr) (k c k' c' l d l' d' : Nat) (by_ : Int) (w : World) (hbig : 30 < k ∨ 30 < l ∨ 50 < k' ∨ 50 < l') :
    Calls Tryz.prog 3 #[.agg #[.slice A k c, .slice A' k' c'], .agg #[.slice B l d, .slice B' l' d'], .int .i64 by_] w fun e w' => e = .returned (.bool true) ∧ Below w.heap.size w w' := by
  have HS := Lib.hid hsan
  have S0 := Lib.hid (N2d.new (w := w) (v0 := .slice A k c) (v1 := .slice A' k' c') (u0 := .slice B l d) (u1 := .slice B' l' d') 25 25)
  have hs : (30 : Int) < k ∨ ((k : Int) ≤ 30 ∧ (30 : Int) < l) ∨ ((k : Int) ≤ 30 ∧ (l : Int) ≤ 30 ∧ (50 : Int) < k') ∨ ((k : Int) ≤ 30 ∧ (l : Int) ≤ 30 ∧ (k' : Int) ≤ 50 ∧ (50 : Int) < l') := by omega
  clear hsan hbig
  rcases hs with a1 | ⟨a1, a2⟩ | ⟨a1, a2, a3⟩ | ⟨a1, a2, a3, a4⟩
  all_goals
    go_enter Tryz.func3, Tryz.ntmps3
    go_wp2_with fail
    refine (HS.out _).mono ?_
    rintro e w1 ⟨rfl, h1⟩
    have S := Lib.hid (S0.out.below h1)
    clear h1
    go_wp2_with fail
    go_ret
    exact ⟨rfl, S.out.bel⟩

set_option maxHeartbeats 16000000 in
set_option maxRecDepth 100000 in
theorem unions_yes (hsan : ∀ W, Calls Tryz.prog 5 #[] W fun e w' => e = .returned (.bool true) ∧ Below W.heap.size W w') (A A' B B' : Option Addr) (k c k' c' l d l' d' : Nat) (by_ : Int) (ta tb : List T3) (sa sb : List S2) (w : World)
    (h : RM w.heap.size (.agg #[.slice A k c, .slice A' k' c']) ta sa w) (h' : RM w.heap.size (.agg #[.slice B l d, .slice B' l' d']) tb sb w) (a1 : (k : Int) ≤ 30) (a2 : (l : Int) ≤ 30) (a3 : (k' : Int) ≤ 50) (a4 : (l' : Int) ≤ 50) :
    Calls Tryz.prog 3 #[.agg #[.slice A k c, .slice A' k' c'], .agg #[.slice B l d, .slice B' l' d'], .int .i64 by_] w fun e w' => e = .returned (.bool true) ∧ Below w.heap.size w w' := by
  have HS := Lib.hid hsan
  have S0 := Lib.hid (N2d.new (w := w) (v0 := .slice A k c) (v1 := .slice A' k' c') (u0 := .slice B l d) (u1 := .slice B' l' d') 25 25)
  obtain ⟨ck, hc⟩ := CheckIs.exists_ ta sa
  obtain ⟨cl, hc'⟩ := CheckIs.exists_ tb sb
  have C1 := Lib.hid fun W (S : N2d w (.slice A k c) (.slice A' k' c') (.slice B l d) (.slice B' l' d') W) => union_any A A' B B' k c k' c' l d l' d' ta tb sa sb ck cl W (h.up S.siz S.bel) (h'.up S.siz S.bel) hc hc'
  have C2 := Lib.hid fun W (S : N2d w (.slice A k c) (.slice A' k' c') (.slice B l d) (.slice B' l' d') W) => runion_any A A' B B' k c k' c' l d l' d' ta tb sa sb ck cl W (h.up S.siz S.bel) (h'.up S.siz S.bel) hc hc'
  have C3 := Lib.hid fun W (S : N2d w (.slice A k c) (.slice A' k' c') (.slice B l d) (.slice B' l' d') W) => shift_any A A' k c k' c' ta sa by_ ck W (h.up S.siz S.bel) hc
  have C4 := Lib.hid fun W (S : N2d w (.slice A k c) (.slice A' k' c') (.slice B l d) (.slice B' l' d') W) => rshift_any A A' k c k' c' ta sa by_ ck W (h.up S.siz S.bel) hc
  clear hsan h h' hc hc'
  go_enter Tryz.func3, Tryz.ntmps3
  go_wp2_with fail
  refine (C1.out _ S0.out).mono ?_
  rintro e w1 ⟨v, u, tu, su, d1, rfl, r1, q1, h1, hu⟩
  obtain ⟨X, nx, cx, rfl⟩ := r1.slice
  obtain ⟨X', nx', cx', rfl⟩ := q1.slice
  have ba := (Below.refl w1.heap.size w1).alloc (Nat.le_refl _) (.cells #[.slice X nx cx, .slice X' nx' cx'] 25)
  have S := Lib.hid ((S0.out.below h1).below ba)
  have T1 := Lib.hid (Two.new (W := w1) (x := .slice X nx cx) (y := .slice X' nx' cx') 25)
  have R1 := Lib.hid (r1.later ba)
  have Q1 := Lib.hid (q1.later ba)
  have HU := Lib.hid hu
  clear h1 hu r1 q1 ba S0 C1
  obtain ⟨t0, t1, t2, t3, t4, _⟩ := S.out.out
  go_wp2_with fail
  refine (C2.out _ S.out).mono ?_
  rintro e w2 ⟨v', u', tu', su', d1', rfl, r2, q2, h2, hu⟩
  obtain ⟨Y, ny, cy, rfl⟩ := r2.slice
  obtain ⟨Y', ny', cy', rfl⟩ := q2.slice
  obtain ⟨rfl, rfl, rfl⟩ := HU.out.unique hu
  have ba := (Below.refl w2.heap.size w2).alloc (Nat.le_refl _) (.cells #[.slice Y ny cy, .slice Y' ny' cy', .int .i64 d1] 31)
  have S := Lib.hid ((S.out.below h2).below ba)
  have T1 := Lib.hid ((T1.out.below h2).below ba)
  have T2 := Lib.hid (Tri.new (W := w2) (x := .slice Y ny cy) (y := .slice Y' ny' cy') (z := .int .i64 d1) 31)
  have R1 := Lib.hid ((R1.out.later h2).later ba)
  have Q1 := Lib.hid ((Q1.out.later h2).later ba)
  have R2 := Lib.hid (r2.later ba)
  have Q2 := Lib.hid (q2.later ba)
  clear h2 hu r2 q2 ba t0 t1 t2 t3 t4 C2 HU
  obtain ⟨t0, t1, t2, t3, t4, _⟩ := S.out.out
  go_wp2_with fail
  refine (C3.out _ S.out).mono ?_
  rintro e w3 ⟨v, ts, d3, rfl, r3, h3, hf⟩
  obtain ⟨Z, nz, cz, rfl⟩ := r3.slice
  have ba := (Below.refl w3.heap.size w3).alloc (Nat.le_refl _) (.cells #[.slice Z nz cz, .slice none 0 0] 25)
  have S := Lib.hid ((S.out.below h3).below ba)
  have T1 := Lib.hid ((T1.out.below h3).below ba)
  have T2 := Lib.hid ((T2.out.below h3).below ba)
  have T3_ := Lib.hid (Two.new (W := w3) (x := .slice Z nz cz) (y := .slice none 0 0) 25)
  have R1 := Lib.hid ((R1.out.later h3).later ba)
  have Q1 := Lib.hid ((Q1.out.later h3).later ba)
  have R2 := Lib.hid ((R2.out.later h3).later ba)
  have Q2 := Lib.hid ((Q2.out.later h3).later ba)
  have R3 := Lib.hid (r3.later ba)
  have HF := Lib.hid hf
  clear h3 hf r3 ba t0 t1 t2 t3 t4 C3
  obtain ⟨t0, t1, t2, t3, t4, _⟩ := S.out.out
  go_wp2_with fail
  refine (C4.out _ S.out).mono ?_
  rintro e w4 ⟨v, ts', d3', rfl, r4, h4, hf⟩
  obtain ⟨V, nv, cv, rfl⟩ := r4.slice
  obtain ⟨rfl, rfl⟩ := HF.out.unique hf
  have ba := (Below.refl w4.heap.size w4).alloc (Nat.le_refl _) (.cells #[.slice V nv cv, .slice none 0 0, .int .i64 d3] 31)
  have S := Lib.hid ((S.out.below h4).below ba)
  have T1 := Lib.hid ((T1.out.below h4).below ba)
  have T2 := Lib.hid ((T2.out.below h4).below ba)
  have T3_ := Lib.hid ((T3_.out.below h4).below ba)
  have T4 := Lib.hid (Tri.new (W := w4) (x := .slice V nv cv) (y := .slice none 0 0) (z := .int .i64 d3) 31)
  have R1 := Lib.hid ((R1.out.later h4).later ba)
  have Q1 := Lib.hid ((Q1.out.later h4).later ba)
  have R2 := Lib.hid ((R2.out.later h4).later ba)
  have Q2 := Lib.hid ((Q2.out.later h4).later ba)
  have R3 := Lib.hid ((R3.out.later h4).later ba)
  have R4 := Lib.hid (r4.later ba)
  clear h4 hf r4 ba t0 t1 t2 t3 t4 C4 HF
  go_wp2_with fail
  refine (HS.out _).mono ?_
  rintro e w5 ⟨rfl, h5⟩
  have S := Lib.hid (S.out.below h5)
  have T1 := Lib.hid (T1.out.below h5)
  have T2 := Lib.hid (T2.out.below h5)
  have T3_ := Lib.hid (T3_.out.below h5)
  have T4 := Lib.hid (T4.out.below h5)
  have R1 := Lib.hid (R1.out.later h5)
  have Q1 := Lib.hid (Q1.out.later h5)
  have R2 := Lib.hid (R2.out.later h5)
  have Q2 := Lib.hid (Q2.out.later h5)
  have R3 := Lib.hid (R3.out.later h5)
  have R4 := Lib.hid (R4.out.later h5)
  clear h5
  obtain ⟨b0, b1, _⟩ := T1.out
  obtain ⟨c0, c1, c2, _⟩ := T2.out.out
  go_wp2_with fail
  refine (sameSet_eq _ _ _ _ _ (rm_both R1.out Q1.out) (rm_both R2.out Q2.out)).mono ?_
  rintro e w6 ⟨rfl, h6⟩
  have S := Lib.hid (S.out.below h6)
  have T2 := Lib.hid (T2.out.below h6)
  have T3_ := Lib.hid (T3_.out.below h6)
  have T4 := Lib.hid (T4.out.below h6)
  have R3 := Lib.hid (R3.out.later h6)
  have R4 := Lib.hid (R4.out.later h6)
  clear h6 b0 b1 c0 c1 c2 T1 R1 Q1 R2 Q2
  obtain ⟨c0, c1, c2, _⟩ := T2.out.out
  obtain ⟨e0, e1, _⟩ := T3_.out
  obtain ⟨f0, f1, f2, _⟩ := T4.out.out
  go_wp2_with fail
  refine (sameSet_eq _ _ _ _ _ (rm_of R3.out) (rm_of R4.out)).mono ?_
  rintro e w7 ⟨rfl, h7⟩
  have S := Lib.hid (S.out.below h7)
  have T4 := Lib.hid (T4.out.below h7)
  clear h7 c0 c1 c2 e0 e1 f0 f1 f2 T2 T3_ R3 R4
  obtain ⟨f0, f1, f2, _⟩ := T4.out.out
  go_wp2_with fail
  go_ret
  exact ⟨by simp, S.out.bel⟩

theorem turnUnions_calls (hsan : ∀ W, Calls Tryz.prog 5 #[] W fun e w' => e = .returned (.bool true) ∧ Below W.heap.size W w') (A : Option Addr) (k c : Nat) (A' : Option Addr) (k' c' : Nat) (B : Option Addr) (l d : Nat) (B' : Option Addr) (l' d' : Nat) (by_ : Int) (w : World) (ho : k ≤ 1000000000000 → k' ≤ 1000000000000 → ∃ ts ss, RM w.heap.size (.agg #[.slice A k c, .slice A' k' c']) ts ss w)
    (ho' : l ≤ 1000000000000 → l' ≤ 1000000000000 → ∃ ts ss, RM w.heap.size (.agg #[.slice B l d, .slice B' l' d']) ts ss w) (_ : -9223372036854775808 ≤ by_) (_ : by_ ≤ 9223372036854775807) :
    Calls Tryz.prog 3 #[.agg #[.slice A k c, .slice A' k' c'], .agg #[.slice B l d, .slice B' l' d'], .int .i64 by_] w fun e w' => e = .returned (.bool true) ∧ Below w.heap.size w w' := by
  by_cases hbig : 30 < k ∨ 30 < l ∨ 50 < k' ∨ 50 < l'
  · exact unions_no hsan A A' B B' k c k' c' l d l' d' by_ w hbig
  · obtain ⟨ta, sa, h⟩ := ho (by omega) (by omega)
    obtain ⟨tb, sb, h'⟩ := ho' (by omega) (by omega)
    exact unions_yes hsan A A' B B' k c k' c' l d l' d' by_ ta tb sa sb w h h' (by omega) (by omega) (by omega) (by omega)
end Go.Proofs.YtcdodfehnkgjdaaGreatDoor

/- Plain facts of the law TurnJoins: a union of right sets either way; a set that comes later. -/
namespace Go.Proofs.YtcdodfehnkgjdaaGreatDoor

theorem nodup_addT {out : List (Int × Int × Int)} {t : Int × Int × Int} (h : out.Nodup) : (addT out t).Nodup := by
  unfold addT
  split
  · exact h
  · rename_i hn
    rw [List.nodup_append]
    refine ⟨h, by simp, fun a ha b hb => ?_⟩
    rw [List.mem_singleton] at hb
    subst hb
    exact fun e => hn (e ▸ ha)
theorem nodup_foldl : ∀ (l out : List (Int × Int × Int)), out.Nodup → (l.foldl addT out).Nodup
  | [], _, h => h
  | t :: l, out, h => nodup_foldl l (addT out t) (nodup_addT h)
theorem onceL_nodup (l : List (Int × Int × Int)) : (onceL l).Nodup := nodup_foldl l [] List.nodup_nil
theorem len_le : ∀ (a b : List (Int × Int × Int)), a.Nodup → (∀ x ∈ a, x ∈ b) → a.length ≤ b.length
  | [], _, _, _ => Nat.zero_le _
  | x :: a, b, hn, hs => by
    obtain ⟨h1, h2⟩ := List.nodup_cons.1 hn
    have hx : x ∈ b := hs x (List.mem_cons_self ..)
    have := len_le a (b.erase x) h2 (fun y hy => (List.mem_erase_of_ne (show y ≠ x from fun e => h1 (e ▸ hy))).2 (hs y (List.mem_cons_of_mem _ hy)))
    rw [List.length_erase_of_mem hx] at this
    have := List.length_pos_of_mem hx
    rw [List.length_cons]
    omega
theorem onceL_len_eq {a b : List (Int × Int × Int)} (h : ∀ x, x ∈ a ↔ x ∈ b) : (onceL a).length = (onceL b).length :=
  Nat.le_antisymm (len_le _ _ (onceL_nodup _) (fun x hx => mem_onceL.2 ((h x).1 (mem_onceL.1 hx)))) (len_le _ _ (onceL_nodup _) (fun x hx => mem_onceL.2 ((h x).2 (mem_onceL.1 hx))))
theorem JoinedOf.flip {a b su : List S2} (h : JoinedOf (a ++ b) su) : JoinedOf (b ++ a) su := ⟨h.1, fun m => by rw [h.2, inS_app, inS_app, Bool.or_comm]⟩
/-- The errors of a union either way, where a set is not right. -/
theorem UnionIs.bad {ta tb tu : List T3} {sa sb su : List S2} {ca cb d : Int} (h : UnionIs ta sa tb sb ca cb tu su d) (h0 : ca ≠ 0 ∨ cb ≠ 0) : d ≠ 0 := by
  rcases h with ⟨a, _, _, rfl⟩ | ⟨a, b, _, _, rfl⟩ | ⟨a, b, _⟩
  · exact a
  · exact b
  · omega
/-- Both ways of a union of right sets. -/
theorem UnionIs.ways {ta tb tu tv : List T3} {sa sb su sv : List S2} {d d' : Int} (h : UnionIs ta sa tb sb 0 0 tu su d) (h' : UnionIs tb sb ta sa 0 0 tv sv d') :
    d = d' ∧ ((d = 2) ∨ (d = 0 ∧ ((tu.length ≤ 24 ∧ su.length ≤ 40) ∧ (∀ t, t ∈ tu ↔ t ∈ ta ++ tb) ∧ JoinedOf (sa ++ sb) su) ∧ (tv.length ≤ 24 ∧ sv.length ≤ 40) ∧ (∀ t, t ∈ tv ↔ t ∈ tb ++ ta) ∧ JoinedOf (sb ++ sa) sv)) := by
  rcases h with ⟨a, _⟩ | ⟨_, a, _⟩ | ⟨_, _, sj, hj, h⟩
  · exact absurd rfl a
  · exact absurd rfl a
  rcases h' with ⟨a, _⟩ | ⟨_, a, _⟩ | ⟨_, _, sk, hk, h'⟩
  · exact absurd rfl a
  · exact absurd rfl a
  obtain rfl := hj.flip.unique hk
  have hl : (onceL (ta ++ tb)).length = (onceL (tb ++ ta)).length := onceL_len_eq (fun x => by rw [List.mem_append, List.mem_append, or_comm])
  rcases h with ⟨p, q, rfl, rfl, rfl⟩ | ⟨p, rfl, rfl, rfl⟩ <;> rcases h' with ⟨u, v, rfl, rfl, rfl⟩ | ⟨u, rfl, rfl, rfl⟩
  · exact ⟨rfl, .inr ⟨rfl, ⟨⟨p, q⟩, fun t => mem_onceL, hj⟩, ⟨u, v⟩, fun t => mem_onceL, hk⟩⟩
  · omega
  · omega
  · exact ⟨rfl, .inl rfl⟩
theorem check_of {ta tb tu : List T3} {sa sb su : List S2} (ha : AllOk ta sa) (hb : AllOk tb sb) (h : (tu.length ≤ 24 ∧ su.length ≤ 40) ∧ (∀ t, t ∈ tu ↔ t ∈ ta ++ tb) ∧ JoinedOf (sa ++ sb) su) : CheckIs tu su 0 :=
  .inr (.inl ⟨h.1.1, h.1.2, union_ok ha hb h.2.1 h.2.2.1 h.2.2.2, rfl⟩)
theorem has_of {ta tb tu : List T3} {sa sb su : List S2} (h : (tu.length ≤ 24 ∧ su.length ≤ 40) ∧ (∀ t, t ∈ tu ↔ t ∈ ta ++ tb) ∧ JoinedOf (sa ++ sb) su) (n : Int) : hasV tu su n = (hasV ta sa n || hasV tb sb n) := by
  unfold hasV
  rw [union_has h.2.1 h.2.2.2 n]
  cases mokB n <;> simp
/-- What Shift leaves. -/
theorem ShiftIs.good {ts l : List T3} {ss : List S2} {by_ c d : Int} (hc : CheckIs ts ss c) (h : ShiftIs ts ss by_ c l d) (hd : d = 0) (n : Int) (hn : MOk n) (hn' : MOk (n - by_)) : c = 0 ∧ CheckIs l [] 0 ∧ hasV l [] n = hasV ts ss (n - by_) := by
  rcases h with ⟨a, _, rfl⟩ | ⟨_, _, _, rfl⟩ | ⟨rfl, rfl, h1, h2, rfl, _⟩
  · exact absurd hd a
  · omega
  obtain ⟨k1, k2, k3⟩ := checkIs_ok hc
  refine ⟨rfl, .inr (.inl ⟨by simpa using k1, by simp, ⟨fun t ht => ?_, fun s hs => by cases hs⟩, rfl⟩), ?_⟩
  · obtain ⟨u, hu, rfl⟩ := List.mem_map.1 ht
    exact laterT_ok (k3.1 u hu)
  · unfold hasV
    rw [later_has, show mokB n = true from decide_eq_true hn, show mokB (n - by_) = true from decide_eq_true hn']
end Go.Proofs.YtcdodfehnkgjdaaGreatDoor

/- The law TurnJoins: where it asks the examples alone. -/
namespace Go.Proofs.YtcdodfehnkgjdaaGreatDoor
open Go.RowKit

/-- Two sets, and two more in blocks of their own. -/
def Jn7 (w : World) (v0 v1 u0 u1 : Value) (n : Nat) (x x' : Value) (m : Nat) (y y' : Value) (tu : List T3) (su : List S2) (tv : List T3) (sv : List S2) (W : World) : Prop :=
  N2d w v0 v1 u0 u1 W ∧ Two n x x' W ∧ Two m y y' W ∧ RM W.heap.size (.agg #[x, x']) tu su W ∧ RM W.heap.size (.agg #[y, y']) tv sv W
theorem Jn7.below {w W W' : World} {v0 v1 u0 u1 x x' y y' : Value} {n m : Nat} {tu tv : List T3} {su sv : List S2} (h : Jn7 w v0 v1 u0 u1 n x x' m y y' tu su tv sv W) (hb : Below W.heap.size W W') : Jn7 w v0 v1 u0 u1 n x x' m y y' tu su tv sv W' :=
  ⟨h.1.below hb, h.2.1.below hb, h.2.2.1.below hb, h.2.2.2.1.up hb.size hb, h.2.2.2.2.up hb.size hb⟩
theorem Jn7.cells {w W : World} {v0 v1 u0 u1 x x' y y' : Value} {n m : Nat} {tu tv : List T3} {su sv : List S2} (h : Jn7 w v0 v1 u0 u1 n x x' m y y' tu su tv sv W) :
    W.cell? ⟨w.heap.size, 0, none⟩ = some v0 ∧ W.cell? ⟨w.heap.size, 1, none⟩ = some v1 ∧ W.cell? ⟨w.heap.size + 1, 0, none⟩ = some u0 ∧ W.cell? ⟨w.heap.size + 1, 1, none⟩ = some u1 ∧ W.cell? ⟨n, 0, none⟩ = some x ∧ W.cell? ⟨n, 1, none⟩ = some x' ∧ W.cell? ⟨m, 0, none⟩ = some y ∧ W.cell? ⟨m, 1, none⟩ = some y' := by
  obtain ⟨a0, a1, a2, a3, _⟩ := h.1.out
  exact ⟨a0, a1, a2, a3, h.2.1.1, h.2.1.2.1, h.2.2.1.1, h.2.2.1.2.1⟩
/-- Two sets, and what Shift returned. -/
def In12 (w : World) (v0 v1 u0 u1 : Value) (n : Nat) (x x' : Value) (ts : List T3) (W : World) : Prop :=
  N2d w v0 v1 u0 u1 W ∧ Two n x x' W ∧ RM W.heap.size (.agg #[x, x']) ts [] W
theorem In12.below {w W W' : World} {v0 v1 u0 u1 x x' : Value} {n : Nat} {ts : List T3} (h : In12 w v0 v1 u0 u1 n x x' ts W) (hb : Below W.heap.size W W') : In12 w v0 v1 u0 u1 n x x' ts W' :=
  ⟨h.1.below hb, h.2.1.below hb, h.2.2.up hb.size hb⟩
theorem In12.cells {w W : World} {v0 v1 u0 u1 x x' : Value} {n : Nat} {ts : List T3} (h : In12 w v0 v1 u0 u1 n x x' ts W) :
    W.cell? ⟨w.heap.size, 0, none⟩ = some v0 ∧ W.cell? ⟨w.heap.size, 1, none⟩ = some v1 ∧ W.cell? ⟨n, 0, none⟩ = some x ∧ W.cell? ⟨n, 1, none⟩ = some x' := by
  obtain ⟨a0, a1, _⟩ := h.1.out
  exact ⟨a0, a1, h.2.1.1, h.2.1.2.1⟩
theorem CheckIs.unique0 {ts : List T3} {ss : List S2} {c : Int} (h : CheckIs ts ss c) (hc : c = 0) : CheckIs ts ss 0 := hc ▸ h

set_option maxHeartbeats 8000000 in
set_option maxRecDepth 100000 in
theorem joins_no (hsan : ∀ W, Calls Tryz.prog 5 #[] W fun e w' => e = .returned (.bool true) ∧ Below W.heap.size W w') (A A' B B' : Option Addr) (k c k' c' l d l' d' : Nat) (by_ mn : Int) (w : World) (hno : fewB k k' = false ∨ (fewB k k' = true ∧ fewB l l' = false) ∨ (fewB k k' = true ∧ fewB l l' = true ∧ (mn < 0 ∨ 1048576 < mn ∨ by_ < -1048576 ∨ 1048576 < by_))) :
    Calls Tryz.prog 4 #[.agg #[.slice A k c, .slice A' k' c'], .agg #[.slice B l d, .slice B' l' d'], .int .i64 by_, .int .i64 mn] w fun e w' => e = .returned (.bool true) ∧ Below w.heap.size w w' := by
  have HS := Lib.hid hsan
  have S0 := Lib.hid (N2d.new (w := w) (v0 := .slice A k c) (v1 := .slice A' k' c') (u0 := .slice B l d) (u1 := .slice B' l' d') 25 25)
  have F := Lib.hid fun W => few_any A A' k c k' c' W
  have F' := Lib.hid fun W => few_any B B' l d l' d' W
  clear hsan
  rcases hno with h0 | ⟨h0, h1⟩ | ⟨h0, h1, h2⟩
  · rw [h0] at F
    clear h0
    go_enter Tryz.func4, Tryz.ntmps4
    go_wp2_with fail
    refine (F.out _).mono ?_
    rintro e w1 ⟨rfl, h1⟩
    have S := Lib.hid (S0.out.below h1)
    clear h1 S0
    go_wp2_with fail
    refine (HS.out _).mono ?_
    rintro e w9 ⟨rfl, h9⟩
    have S := Lib.hid (S.out.below h9)
    clear h9
    go_wp2_with fail
    go_ret
    exact ⟨rfl, S.out.bel⟩
  · rw [h0] at F
    rw [h1] at F'
    clear h0 h1
    go_enter Tryz.func4, Tryz.ntmps4
    go_wp2_with fail
    refine (F.out _).mono ?_
    rintro e w1 ⟨rfl, h1⟩
    have S := Lib.hid (S0.out.below h1)
    clear h1 S0
    obtain ⟨t0, t1, t2, t3, t4, _⟩ := S.out.out
    go_wp2_with fail
    refine (F'.out _).mono ?_
    rintro e w2 ⟨rfl, h2⟩
    have S := Lib.hid (S.out.below h2)
    clear h2 t0 t1 t2 t3 t4
    go_wp2_with fail
    refine (HS.out _).mono ?_
    rintro e w9 ⟨rfl, h9⟩
    have S := Lib.hid (S.out.below h9)
    clear h9
    go_wp2_with fail
    go_ret
    exact ⟨rfl, S.out.bel⟩
  · rw [h0] at F
    rw [h1] at F'
    clear h0 h1
    have hs : mn < 0 ∨ (¬ mn < 0 ∧ 1048576 < mn) ∨ (¬ mn < 0 ∧ mn ≤ 1048576 ∧ by_ < -1048576) ∨ (¬ mn < 0 ∧ mn ≤ 1048576 ∧ ¬ by_ < -1048576 ∧ 1048576 < by_) := by omega
    clear h2
    go_enter Tryz.func4, Tryz.ntmps4
    go_wp2_with fail
    refine (F.out _).mono ?_
    rintro e w1 ⟨rfl, h1⟩
    have S := Lib.hid (S0.out.below h1)
    clear h1 S0
    obtain ⟨t0, t1, t2, t3, t4, _⟩ := S.out.out
    go_wp2_with fail
    refine (F'.out _).mono ?_
    rintro e w2 ⟨rfl, h2⟩
    have S := Lib.hid (S.out.below h2)
    clear h2 t0 t1 t2 t3 t4
    rcases hs with a1 | ⟨a1, a2⟩ | ⟨a1, a2, a3⟩ | ⟨a1, a2, a3, a4⟩
    all_goals
      go_wp2_with fail
      refine (HS.out _).mono ?_
      rintro e w9 ⟨rfl, h9⟩
      have S := Lib.hid (S.out.below h9)
      clear h9
      go_wp2_with fail
      go_ret
      exact ⟨rfl, S.out.bel⟩
end Go.Proofs.YtcdodfehnkgjdaaGreatDoor
