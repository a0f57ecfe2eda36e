/- Plain mathematics: the minutes of a union, and of a set that comes later. -/
import Derived.Test.YtcdodfehnkgjdaaGreatDoorMM
import Derived.Test.YtcdodfehnkgjdaaGreatDoorD6
import Derived.Test.YtcdodfehnkgjdaaGreatDoorUF
import Derived.Maps.OwnSet
import Derived.Maps.OwnOps
import Derived.DeepKeys4
import Derived.Lib.AppendZerosOnto
import Derived.Maps.AppendAt
namespace Go.Proofs.YtcdodfehnkgjdaaGreatDoor

theorem setB_lots (ts : List T3) (ss : List S2) (n : Int) : setB (lotsOf ts ss) n = true ↔ (∃ t ∈ ts, (n - t.2.1) % t.1 < t.2.2) ∨ inS ss n = true := by
  rw [setB_iff, inS_iff]
  constructor
  · rintro ⟨x, hx, h⟩
    simp only [lotsOf, List.mem_append, List.mem_map] at hx
    rcases hx with ⟨t, ht, rfl⟩ | ⟨y, hy, rfl⟩
    · exact .inl ⟨t, ht, h⟩
    · exact .inr ⟨y, hy, h⟩
  · rintro (⟨t, ht, h⟩ | ⟨y, hy, h⟩)
    · exact ⟨lotOfT t, by simp only [lotsOf, List.mem_append, List.mem_map]; exact .inl ⟨t, ht, rfl⟩, h⟩
    · exact ⟨lotOfS y, by simp only [lotsOf, List.mem_append, List.mem_map]; exact .inr ⟨y, hy, rfl⟩, h⟩
/-- The minutes of a union are those of both. -/
theorem union_has {ta tb tu : List T3} {sa sb su : List S2} (ht : ∀ t, t ∈ tu ↔ t ∈ ta ++ tb) (hs : ∀ m, inS su m = inS (sa ++ sb) m) (n : Int) : setB (lotsOf tu su) n = (setB (lotsOf ta sa) n || setB (lotsOf tb sb) n) := by
  rw [Bool.eq_iff_iff, Bool.or_eq_true, setB_lots, setB_lots, setB_lots, hs, inS_app, Bool.or_eq_true]
  constructor
  · rintro (⟨t, h1, h2⟩ | h | h)
    · rcases List.mem_append.1 ((ht t).1 h1) with h1 | h1
      · exact .inl (.inl ⟨t, h1, h2⟩)
      · exact .inr (.inl ⟨t, h1, h2⟩)
    · exact .inl (.inr h)
    · exact .inr (.inr h)
  · rintro ((⟨t, h1, h2⟩ | h) | (⟨t, h1, h2⟩ | h))
    · exact .inl ⟨t, (ht t).2 (List.mem_append.2 (.inl h1)), h2⟩
    · exact .inr (.inl h)
    · exact .inl ⟨t, (ht t).2 (List.mem_append.2 (.inr h1)), h2⟩
    · exact .inr (.inr h)
/-- A turn some minutes later. -/
def laterT (by_ : Int) (t : T3) : T3 := (t.1, (t.2.1 + by_) % t.1, t.2.2)
theorem laterT_ok {by_ : Int} {t : T3} (h : TOk t.1 t.2.1 t.2.2) : TOk (laterT by_ t).1 (laterT by_ t).2.1 (laterT by_ t).2.2 := by
  obtain ⟨a1, a2, a3, a4, a5, a6⟩ := h
  have e0 : 0 ≤ (t.2.1 + by_) % t.1 := Int.emod_nonneg _ (by omega)
  have e1 : (t.2.1 + by_) % t.1 < t.1 := Int.emod_lt_of_pos _ (by omega)
  exact ⟨a1, a2, e0, e1, a5, a6⟩
theorem laterT_has (by_ n : Int) (t : T3) : (n - (laterT by_ t).2.1) % (laterT by_ t).1 = (n - by_ - t.2.1) % t.1 := by
  show (n - (t.2.1 + by_) % t.1) % t.1 = _
  have e := Int.emod_add_mul_ediv (t.2.1 + by_) t.1
  rw [show n - (t.2.1 + by_) % t.1 = n - by_ - t.2.1 + t.1 * ((t.2.1 + by_) / t.1) by omega, Int.add_mul_emod_self_left]
theorem later_has (by_ : Int) (ts : List T3) (n : Int) : setB (lotsOf (ts.map (laterT by_)) []) n = setB (lotsOf ts []) (n - by_) := by
  rw [Bool.eq_iff_iff, setB_lots, setB_lots]
  have e : ∀ m, inS [] m = true ↔ False := fun m => by simp [inS]
  rw [e, e, or_false, or_false]
  constructor
  · rintro ⟨t, h1, h2⟩
    obtain ⟨u, hu, rfl⟩ := List.mem_map.1 h1
    exact ⟨u, hu, by rw [laterT_has] at h2; exact h2⟩
  · rintro ⟨u, hu, h⟩
    exact ⟨_, List.mem_map.2 ⟨u, hu, rfl⟩, by rw [laterT_has]; exact h⟩
/-- The set that both have: of valid sets, valid, but for its lengths. -/
theorem union_ok {ta tb tu : List T3} {sa sb su : List S2} (ha : AllOk ta sa) (hb : AllOk tb sb) (ht : ∀ t, t ∈ tu ↔ t ∈ ta ++ tb) (hp : ApartL su) (hs : ∀ m, inS su m = inS (sa ++ sb) m) : AllOk tu su := by
  refine ⟨fun t h => ?_, fun x hx => ?_⟩
  · rcases List.mem_append.1 ((ht t).1 h) with h | h
    · exact ha.1 t h
    · exact hb.1 t h
  · obtain ⟨i, hi⟩ := List.mem_iff_getElem?.1 hx
    have hle := (hp i x hi).1
    have ok : ∀ y ∈ sa ++ sb, SOk y.1 y.2 := fun y hy => by
      rcases List.mem_append.1 hy with hy | hy
      · exact ha.2 y hy
      · exact hb.2 y hy
    have bd : ∀ m, x.1 ≤ m → m ≤ x.2 → 0 ≤ m ∧ m ≤ 1048576 := fun m h1 h2 => by
      have : inS su m = true := (inS_iff _ _).2 ⟨x, hx, h1, h2⟩
      rw [hs, inS_iff] at this
      obtain ⟨y, hy, h3, h4⟩ := this
      obtain ⟨k1, k2, k3⟩ := ok y hy
      omega
    exact ⟨(bd x.1 (Int.le_refl _) hle).1, hle, (bd x.2 hle (Int.le_refl _)).2⟩
end Go.Proofs.YtcdodfehnkgjdaaGreatDoor

/- A map of turns to bools that a call makes: what is asked of it, and what it says. -/
namespace Go.Proofs.YtcdodfehnkgjdaaGreatDoor
open Go.RowKit Go.Maps

/-! An element that is a bool. -/
theorem plainElem_bool_inv {H : Type} {P : Program} {e : TypeId} (he : P.underlying e = some .bool) {v : Value} {z : DataW H × List MemPlace} (h : plainElem P e v = some z) : ∃ x, v = .bool x ∧ z = (.lit (.bool x), []) := by
  unfold plainElem at h
  rw [he] at h
  cases v <;> simp at h
  exact ⟨_, rfl, h.symm⟩
theorem lookup_bool {H : Type} {P : Program} {k t e : TypeId} {w : World} {b n : Nat} {D : DataW H} (h : w.ownsMap P k (plainElem P e) b n D) (K : Keyed P k) (ht : P.underlying t = some (.map k e)) (he : P.underlying e = some .bool) (hz : (zeroValue e).run P w = .ok (.bool false) w)
    {key : Value} {kl : Lit} (hkey : keyOf P k key = some kl) {c : Bool} (hat : D.atKey kl (.lit (.bool false)) = .lit (.bool c)) : (Instr.lookup t (.map (some b)) key false).run P w = .ok (.bool c) w := by
  obtain ⟨v, ps, hrun, hv⟩ := h.lookup K ht hz (plainElem_bool he false) hkey
  obtain ⟨x, rfl, hx⟩ := plainElem_bool_inv he hv
  rw [hat] at hx
  simp at hx
  rw [hx.1]
  exact hrun
theorem wpList_lookup_own_bool {H : Type} {P : Program} (w : World) {ops : Array Oper} {rest : List Oper} {o : Oper} {a : Act} {Q : Exit → Act → World → Prop}
    (hg : o.guard = none) (m x : Operand) (t : TypeId) (hop : o.op = Op.lookup t m x false)
    (k e : TypeId) (K : Keyed P k) (ht : P.underlying t = some (.map k e)) (he : P.underlying e = some .bool) (hz : (zeroValue e).run P w = .ok (.bool false) w) (b n : Nat) (D : DataW H)
    (hm : a.eval m = .map (some b)) (hown : w.ownsMap P k (plainElem P e) b n D) (key : Value) (kl : Lit) (hx : a.eval x = key) (hkey : keyOf P k key = some kl) (c : Bool) (hat : D.atKey kl (.lit (.bool false)) = .lit (.bool c))
    (hK : wpList P ops Q rest (a.put o.dst (.bool c)) w) :
    wpList P ops Q (o :: rest) a w := by
  refine wpList_plain hg fun K' hK' => ?_
  have hrun := lookup_bool hown K ht he hz hkey hat
  unfold Oper.wp
  simp [execOp, hop, hm, hx, hrun, Result.andThen]
  exact hK' _ _ hK

/-! A turn as a key. -/
set_option maxRecDepth 1000000 in
theorem laidOut_ : laidOutB Tryz.prog = true := by kernel_rfl
set_option maxRecDepth 1000000 in
theorem keyTurn : Tryz.prog.keyType 42 = true := by kernel_rfl
theorem cellsTurn : Tryz.prog.cellsOf 42 = 3 := by kernel_rfl
theorem cellsInt : Tryz.prog.cellsOf 3 = 1 := by kernel_rfl
theorem manyTypes : 2 ≤ Tryz.prog.types.size := of_decide_eq_true (by kernel_rfl)
theorem wideTurn : (match Tryz.prog.underlying 42 with | some (.array _ _) | some (.struct _) => true | _ => false) = true := by kernel_rfl
set_option maxRecDepth 1000000 in
theorem rowTurn : (42 : TypeId) < Tryz.prog.types.size := of_decide_eq_true (by kernel_rfl)
set_option maxRecDepth 1000000 in
theorem lawTurn_ : WideMaps.KeyLaw Tryz.prog 42 := deep_law_laid laidOut_ (m := 3) (by omega) rowTurn (by kernel_rfl) wideTurn
theorem lawTurn : Keyed Tryz.prog 42 := Keyed.of_law lawTurn_
def kT (t : T3) : Lit := .string (keyBytes [.int .i64 t.1, .int .i64 t.2.1, .int .i64 t.2.2])
theorem keyLits_int (d : Nat) (n : Int) (h : (Lit.int .i64 n).wf = true) : Tryz.prog.keyLits (d + 1) 3 [.int .i64 n] = some [.int .i64 n] := by
  simp [Program.keyLits, Tryz.underlying3, h]
theorem key_turn (p f l : Int) (hp : (Lit.int .i64 p).wf = true) (hf : (Lit.int .i64 f).wf = true) (hl : (Lit.int .i64 l).wf = true) : keyOf Tryz.prog 42 (tv p f l) = some (kT (p, f, l)) := by
  obtain ⟨d, hd⟩ : ∃ d, Tryz.prog.types.size + 1 = d + 1 + 1 := ⟨Tryz.prog.types.size - 1, by have := manyTypes; omega⟩
  have hform : (tv p f l).formed Tryz.prog 42 = true := by simp [Value.formed, Tryz.underlying42, cellsTurn]
  have e : Tryz.prog.keyLits (d + 1 + 1) 42 [.int .i64 p, .int .i64 f, .int .i64 l] = some [.int .i64 p, .int .i64 f, .int .i64 l] := by
    unfold Program.keyLits
    rw [Tryz.underlying42]
    simp [cellsTurn, cellsInt, keyLits_int, hp, hf, hl]
  unfold keyOf
  rw [Tryz.underlying42]
  have c : (tv p f l).cells.toList = [.int .i64 p, .int .i64 f, .int .i64 l] := rfl
  simp only [keyTurn, hform, Bool.and_self, if_true, c, hd, e, Option.map_some, kT]
theorem kT_isKey (t : T3) : WideAt.IsKeyLit (kT t) := trivial
set_option maxRecDepth 1000000 in
theorem kT_inj {t t' : T3} (h1 : (Lit.int .i64 t.1).wf = true) (h2 : (Lit.int .i64 t.2.1).wf = true) (h3 : (Lit.int .i64 t.2.2).wf = true) (h1' : (Lit.int .i64 t'.1).wf = true) (h2' : (Lit.int .i64 t'.2.1).wf = true) (h3' : (Lit.int .i64 t'.2.2).wf = true) (h : kT t = kT t') : t = t' := by
  obtain ⟨p, f, l⟩ := t
  obtain ⟨p', f', l'⟩ := t'
  have := lawTurn.inj (key_turn p f l h1 h2 h3) (by rw [h]; exact key_turn p' f' l' h1' h2' h3')
  simpa [tv] using this

/-! Which turns have been seen. -/
def wfT (t : T3) : Prop := (Lit.int .i64 t.1).wf = true ∧ (Lit.int .i64 t.2.1).wf = true ∧ (Lit.int .i64 t.2.2).wf = true
/-- The map behind some turns. -/
def seenD (l : List T3) : DataW Unit := setOf (.lit (.bool true)) (l.map kT)
theorem seenD_snoc (l : List T3) (t : T3) : seenD (l ++ [t]) = (seenD l).put (kT t) (.lit (.bool true)) := by
  unfold seenD
  rw [List.map_append, List.map_cons, List.map_nil, setOf_snoc]
theorem seenD_map (l : List T3) : IsMap (seenD l) := (tidy_setOf _ _ (fun x hx => by
  obtain ⟨t, _, rfl⟩ := List.mem_map.1 hx
  exact kT_isKey t)).isMap
set_option maxRecDepth 1000000 in
theorem seen_at : ∀ (n : Nat) (l : List T3), l.length = n → (∀ x ∈ l, wfT x) → ∀ t, wfT t → (seenD l).atKey (kT t) (.lit (.bool false)) = .lit (.bool (decide (t ∈ l)))
  | 0, l, hn, _, t, _ => by
    obtain rfl := List.eq_nil_of_length_eq_zero hn
    simp [seenD, setOf, DataW.atKey]
  | n + 1, l, hn, hl, t, ht => by
    rcases list_cases l with rfl | ⟨l, x, rfl⟩
    · cases hn
    · rw [seenD_snoc]
      have hx := hl x (by simp)
      by_cases e : kT t = kT x
      · have e' := kT_inj ht.1 ht.2.1 ht.2.2 hx.1 hx.2.1 hx.2.2 e
        subst e'
        rw [atKey_put_same (seenD_map l) (kT_isKey t)]
        simp
      · rw [atKey_put_other e, seen_at n l (by simpa using hn) (fun y hy => hl y (by simp [hy])) t ht]
        have : t ≠ x := fun h => e (by rw [h])
        simp [this]
end Go.Proofs.YtcdodfehnkgjdaaGreatDoor

/- Contract of once: each turn of a list once. -/
namespace Go.Proofs.YtcdodfehnkgjdaaGreatDoor
open Go.RowKit Go.Maps

theorem zeroBool (w : World) : (zeroValue 4).run Tryz.prog w = .ok (.bool false) w := by kernel_rfl
/-- What once keeps between two turns. -/
def OnL (w : World) (v : Value) (k : Nat) (l : List T3) (W : World) : Prop :=
  OwnT (w.heap.size + 1) v l W ∧ W.ownsMap Tryz.prog 42 (plainElem (H := Unit) Tryz.prog 4) w.heap.size k (seenD l) ∧ Below w.heap.size w W ∧ w.heap.size + 1 ≤ W.heap.size
section
variable {w W : World} {v : Value} {k : Nat} {l : List T3}
theorem OnL.own (h : OnL w v k l W) : OwnT (w.heap.size + 1) v l W := h.1
theorem OnL.map (h : OnL w v k l W) : W.ownsMap Tryz.prog 42 (plainElem (H := Unit) Tryz.prog 4) w.heap.size k (seenD l) := h.2.1
theorem OnL.bel (h : OnL w v k l W) : Below w.heap.size w W := h.2.2.1
theorem OnL.siz (h : OnL w v k l W) : w.heap.size + 1 ≤ W.heap.size := h.2.2.2
end
theorem GrownL.of_row {w w' : World} {row : Option Nat} (h : w.grownBy w' row) : GrownL row.toList w w' :=
  ⟨h.os, h.tape, h.output, h.size, fun k hk hn => h.block k hk (fun e => hn (by simp [← e]))⟩
section
variable {w W W' : World} {v : Value} {k : Nat} {l : List T3}
theorem OnL.alloc (h : OnL w v k l W) (o : Obj) : OnL w v k l (W.alloc o) :=
  ⟨h.own.alloc o, h.map.alloc o, h.bel.alloc (by have := h.siz; omega) o, by have := h.siz; simp; omega⟩
end
theorem onceL_take {l : List T3} {k : Nat} {t : T3} (h : l[k]? = some t) : onceL (l.take (k + 1)) = addT (onceL (l.take k)) t := by
  obtain ⟨h1, rfl⟩ := List.getElem?_eq_some_iff.1 h
  rw [List.take_succ_eq_append_getElem h1, onceL_snoc]

theorem OwnT.low {base base' : Nat} {v : Value} {l : List T3} {W : World} (h : OwnT base v l W) (hb : base' ≤ base) : OwnT base' v l W := by
  refine ⟨h.1, ?_⟩
  rcases h.2 with h | ⟨g, cap, cur, e, h1, h2⟩
  · exact .inl h
  · exact .inr ⟨g, cap, cur, e, by omega, h2⟩
set_option maxHeartbeats 8000000 in
set_option maxRecDepth 1000000 in
theorem once_any (v : Value) (l : List T3) (w : World) (h : RT w.heap.size v l w) (hl : l.length ≤ 100) (hw : ∀ x ∈ l, wfT x) :
    Calls Tryz.prog 28 #[v] w fun e w' => ∃ v', e = .returned v' ∧ OwnT w.heap.size v' (onceL l) w' ∧ Below w.heap.size w w' := by
  obtain ⟨i0, hi, hz0, hz1, hz2⟩ := info_parts infoTurn
  obtain ⟨A, ca, rfl, -, hx⟩ := h
  have HX := Lib.hid hx
  have HW := Lib.hid hw
  have hmm := @run_makeMap Tryz.prog
  clear hx hw
  go_enter Tryz.func28, Tryz.ntmps28
  go_wp2_with fail
  have R0 : Hid (OnL w (.slice none 0 0) 0 (onceL (l.take 0)) (w.alloc (.map #[] 0))) := Lib.hid ⟨World.ownsRow_nil _ _ _ _, World.ownsMap_made _ _ _ _, (Below.refl _ _).alloc (Nat.le_refl _) _, by simp⟩
  go_loopw [3, 10] (fun v u wr => ∃ k : Nat, u = .int .i64 k ∧ k ≤ l.length ∧ OnL w v k (onceL (l.take k)) wr) (fun _ u _ => l.length - (intOf u).toNat)
  case atStart => exact ⟨0, rfl, by omega, R0.out⟩
  case round =>
    obtain ⟨k, rfl, hk, hS⟩ := hrel
    have S := Lib.hid hS
    clear hS R0
    by_cases hkl : k < l.length
    · obtain ⟨b, o, rfl, hbB, hcs⟩ := HX.out (by omega)
      have hk0 : (k : Int) < (l.length : Int) := by omega
      obtain ⟨⟨p, f, m⟩, ht⟩ : ∃ t, l[k]? = some t := ⟨_, List.getElem?_eq_getElem hkl⟩
      obtain ⟨c0, c1, c2⟩ := hcs k p f m ht
      have d0 := (S.out.bel.cell (p := ⟨b, o + k * 3, none⟩) hbB).trans c0
      have d1 := (S.out.bel.cell (p := ⟨b, o + k * 3 + 1, none⟩) hbB).trans c1
      have d2 := (S.out.bel.cell (p := ⟨b, o + k * 3 + 2, none⟩) hbB).trans c2
      have HT : Hid (onceL (l.take (k + 1)) = addT (onceL (l.take k)) (p, f, m)) := Lib.hid (onceL_take ht)
      have ⟨w1, w2, w3⟩ : wfT (p, f, m) := HW.out _ (List.mem_of_getElem? ht)
      have hat := seen_at _ (onceL (l.take k)) rfl (fun x hx => HW.out x (List.mem_of_mem_take (mem_onceL.1 hx))) (p, f, m) ⟨w1, w2, w3⟩
      have hkey := key_turn p f m w1 w2 w3
      have hlen : (onceL (l.take k)).length ≤ k := Nat.le_trans (onceL_len _) (by simp; omega)
      obtain ⟨acc, ha⟩ : ∃ acc, onceL (l.take k) = acc := ⟨_, rfl⟩
      rw [ha] at S HT hat hlen
      have HAT := Lib.hid hat
      have HK := Lib.hid hkey
      have hmap := Lib.hid S.out.map
      clear c0 c1 c2 ht hcs ha hat hkey w1 w2 w3
      by_cases hm : (p, f, m) ∈ acc
      · have HM : Hid ((seenD acc).atKey (kT (p, f, m)) (.lit (.bool false)) = .lit (.bool true)) := Lib.hid (by rw [HAT.out, decide_eq_true hm])
        have HE : Hid (onceL (l.take (k + 1)) = acc) := Lib.hid (by rw [HT.out]; exact if_pos hm)
        clear HAT hm HT
        go_wp2_with (at_lookup; refine wpList_lookup_own_bool _ rfl _ _ 112 rfl 42 4 lawTurn Tryz.underlying112 Tryz.underlying4 (zeroBool _) w.heap.size k (seenD acc) rfl (hmap.out.alloc _) _ (kT (p, f, m)) rfl HK.out true HM.out ?_)
        go_roundw
        case rel =>
          refine ⟨k + 1, by go_num, by omega, ?_⟩
          rw [HE.out]
          exact ⟨S.out.own.alloc _, (S.out.map.alloc _).mono (by omega), S.out.bel.alloc (by have := S.out.siz; omega) _, by have := S.out.siz; simp; omega⟩
        case measure => show l.length - ((k : Int) + 1).toNat < l.length - (k : Int).toNat; omega
      · have HM : Hid ((seenD acc).atKey (kT (p, f, m)) (.lit (.bool false)) = .lit (.bool false)) := Lib.hid (by rw [HAT.out, decide_eq_false hm])
        have HE : Hid (onceL (l.take (k + 1)) = acc ++ [(p, f, m)]) := Lib.hid (by rw [HT.out]; exact if_neg hm)
        obtain ⟨Av, cv, rfl, -⟩ := S.out.own.form
        obtain ⟨n, hn⟩ : ∃ n, acc.length = n := ⟨_, rfl⟩
        rw [hn] at S hlen ⊢
        have HN := Lib.hid hn
        have HO : Hid (wr.ownsRow (w.heap.size + 1) 42 3 (.slice Av n cv) n (rowT3 acc)) := Lib.hid (by have := S.out.own; unfold OwnT at this; rwa [HN.out] at this)
        have hsz := S.out.siz
        have HLT := Lib.hid fun q (hq : q ∈ (Value.ownBlock (.slice Av n cv)).toList) => HO.out.lt q (by simpa using hq)
        have hma := Lib.hid (hmap.out.alloc (.cells #[.int .i64 p, .int .i64 f, .int .i64 m] 42))
        clear HAT hm HT hn
        go_wp2_with (first | (at_lookup; refine wpList_lookup_own_bool _ rfl _ _ 112 rfl 42 4 lawTurn Tryz.underlying112 Tryz.underlying4 (zeroBool _) w.heap.size k (seenD acc) rfl hma.out _ (kT (p, f, m)) rfl HK.out false HM.out ?_) | (at_mapUpdate; refine wpList_mapUpdate_own _ rfl _ _ _ 112 rfl 42 4 lawTurn Tryz.underlying112 _ w.heap.size k (seenD acc) rfl hma.out (by unfold maxLen; omega) _ _ (kT (p, f, m)) rfl rfl HK.out _ [] (plainElem_bool Tryz.underlying4 true) ?_; intro w1 hown1 hgrow1; have M1 := Lib.hid hown1; have G1 := Lib.hid (GrownL.of_row hgrow1); have z1 := G1.out.size; simp at z1; have t0 := G1.out.cell (p := ⟨wr.heap.size, 0, none⟩) (v := .int .i64 p) (by simp [go_sem]) (by simp; omega); have t1 := G1.out.cell (p := ⟨wr.heap.size, 1, none⟩) (v := .int .i64 f) (by simp [go_sem]) (by simp; omega); have t2 := G1.out.cell (p := ⟨wr.heap.size, 2, none⟩) (v := .int .i64 m) (by simp [go_sem]) (by simp; omega); clear hown1 hgrow1; have HO1 := Lib.hid (ownsRow_grownL (HO.out.alloc _) G1.out (fun q hq hm => by have := (HO.out.lt q hq).1; simp at hm; omega))) | (at_builtin; refine wpList_append_own _ rfl _ _ 22 rfl (w.heap.size + 1) 42 i0 (.agg #[.int .i64 0, .int .i64 0, .int .i64 0]) 3 24 Tryz.underlying22 hi hz0 hz1 hz2 rfl (by decide) _ n _ rfl (HO1.out.alloc _) ⟨w1.heap.size, 0, none⟩ 1 1 [.int .i64 p, .int .i64 f, .int .i64 m] rfl rfl ?c1 ?c2 ?c3 ?c4 ?c5 ?_))
        case c1 =>
          intro j u hj
          match j, hj with
          | 0, hj => simp at hj; subst hj; simp [go_sem, Addr.add]
          | 1, hj => simp at hj; subst hj; simp [go_sem, Addr.add]
          | 2, hj => simp at hj; subst hj; simp [go_sem, Addr.add]
          | j + 3, hj => simp at hj
        case c2 => intro u hu; simp at hu; rcases hu with rfl | rfl | rfl <;> rfl
        case c3 => unfold maxLen; omega
        case c4 => omega
        case c5 => simp <;> omega
        intro v' w4 hown' hgrow _
        have R : Hid (OnL w v' (k + 1) (onceL (l.take (k + 1))) w4) := Lib.hid (by
          have g1 := (GrownL.of_below ((Below.refl w1.heap.size w1).alloc (Nat.le_refl _) (.cells #[.int .i64 p, .int .i64 f, .int .i64 m] 42))).trans (GrownL.of_by' hgrow)
          have hlt := HLT.out
          have zz := g1.size
          rw [HE.out]
          refine ⟨?_, ?_, ?_, by omega⟩
          · unfold OwnT
            rw [rowT3_snoc, List.length_append, HN.out]
            exact hown'
          · rw [seenD_snoc]
            exact (M1.out.alloc _).kept hgrow (fun e => by have := HO.out.lt w.heap.size e.symm; omega)
          · refine S.out.bel.trans ?_
            have ga : GrownL ((some w.heap.size).toList) wr w1 := (GrownL.of_below ((Below.refl _ _).alloc (Nat.le_refl _) _)).trans G1.out
            refine (ga.below (B := w.heap.size) (by simp) (by omega)).trans (g1.below (fun q hq => by have := hlt q hq; omega) (by omega)))
        clear hown' hgrow
        go_wp2_with fail
        go_roundw
        case rel => exact ⟨k + 1, by go_num, by omega, R.out⟩
        case measure => show l.length - ((k : Int) + 1).toNat < l.length - (k : Int).toNat; omega
    · have hkl' : (l.length : Int) ≤ (k : Int) := by omega
      have HE : Hid (onceL (l.take k) = onceL l) := Lib.hid (by rw [List.take_of_length_le (by omega)])
      go_wp2_with fail
      go_ret
      refine ⟨_, rfl, ?_, S.out.bel⟩
      rw [← HE.out]
      exact S.out.own.low (by omega)
end Go.Proofs.YtcdodfehnkgjdaaGreatDoor

/- Contracts of slices.Grow at nil, and of slices.Concat at two lists: turns. -/
namespace Go.Proofs.YtcdodfehnkgjdaaGreatDoor
open Go.RowKit

/-- An append of a list that may be empty, onto a row of one's own. -/
theorem app_row {P : Program} (w : World) (base : Nat) (t ty e : TypeId) (i : TypeInfo) (z : Value) (size bytes : Nat) (ht : P.underlying t = some (.slice e)) (hi : P.info? e = some i) (hz : i.zero = some z)
    (hsize : i.size = size) (hby : i.bytes = bytes) (hzs : z.cells.size = size) (hsz : 0 < size)
    (v : Value) (n : Nat) (xs : List Value) (hown : w.ownsRow base e size v n xs)
    (A : Option Addr) (m c : Nat) (news : List Value) (hl : news.length = m * size) (hnews : 0 < m → ∃ a, A = some a ∧ ∀ j u, news[j]? = some u → w.cell? (a.add j) = some u) (h1 : ∀ u ∈ news, u.oneCell' = true)
    (h63 : n + m ≤ maxLen) (hbytes : (n + m) * bytes ≤ 140737488355328) (hbase : base ≤ w.heap.size) :
    ∃ v' w', (Builtin.append_ #[t, t] ty #[v, .slice A m c]).run P w = .ok v' w' ∧ w'.ownsRow base e size v' (n + m) (xs ++ news) ∧ w.grownBy w' v.ownBlock ∧ (v'.ownBlock = v.ownBlock ∨ v'.ownBlock = some w.heap.size) := by
  rcases Nat.eq_zero_or_pos m with rfl | hm
  · have hn : news = [] := List.eq_nil_of_length_eq_zero (by simpa using hl)
    subst hn
    have hfc : (Builtin.firstCells size 0 (.slice A 0 c)).run P w = .ok #[] w := by
      cases A with
      | none => exact run_firstCells_none w size 0 0 c
      | some a => exact run_firstCells_some w size 0 a 0 c [] (by simp) (fun j v hj => by simp at hj)
    refine ⟨v, w, ?_, by simpa using hown, ⟨rfl, rfl, rfl, Nat.le_refl _, fun _ _ _ => rfl⟩, .inl rfl⟩
    rcases hown.2 with ⟨rfl, rfl⟩ | ⟨g, cap, cur, rfl, hbg, hg, hnc, hcm, hcs, htake⟩
    · simp [Builtin.append_, run_underlying ht, sizeOf, typeInfo, hi, Builtin.lenOf, hsize, hfc]
    · simp [Builtin.append_, run_underlying ht, sizeOf, typeInfo, hi, Builtin.lenOf, hsize, hfc, hnc, storeCells]
  · obtain ⟨a, rfl, hc⟩ := hnews hm
    obtain ⟨v', w', h2, h3, h4, _, h5⟩ := run_append_own_at (P := P) w base t ty e i z size bytes ht hi hz hsize hby hzs hsz v n xs hown a m c news hl hc h1 h63 hbytes hbase
    exact ⟨v', w', h2, h3, h4, h5⟩

theorem addr_add (b o j : Nat) : (⟨b, o, none⟩ : Addr).add j = ⟨b, o + j, none⟩ := by
  unfold Addr.add
  split
  · rename_i h; subst h; rfl
  · rfl
theorem rowT3_get : ∀ (l : List T3) (j : Nat) (u : Value), (rowT3 l)[j]? = some u → ∃ k p f m, l[k]? = some (p, f, m) ∧ ((j = k * 3 ∧ u = .int .i64 p) ∨ (j = k * 3 + 1 ∧ u = .int .i64 f) ∨ (j = k * 3 + 2 ∧ u = .int .i64 m))
  | [], j, u, h => by simp [rowT3] at h
  | (p, f, m) :: l, 0, u, h => ⟨0, p, f, m, rfl, .inl ⟨rfl, by simpa [rowT3] using h.symm⟩⟩
  | (p, f, m) :: l, 1, u, h => ⟨0, p, f, m, rfl, .inr (.inl ⟨rfl, by simpa [rowT3] using h.symm⟩)⟩
  | (p, f, m) :: l, 2, u, h => ⟨0, p, f, m, rfl, .inr (.inr ⟨rfl, by simpa [rowT3] using h.symm⟩)⟩
  | (p, f, m) :: l, j + 3, u, h => by
    have e : rowT3 ((p, f, m) :: l) = .int .i64 p :: .int .i64 f :: .int .i64 m :: rowT3 l := rfl
    rw [e] at h
    obtain ⟨k, p', f', m', h1, h2⟩ := rowT3_get l j u (by simpa using h)
    refine ⟨k + 1, p', f', m', by simpa using h1, ?_⟩
    rcases h2 with ⟨h2, h3⟩ | ⟨h2, h3⟩ | ⟨h2, h3⟩
    · exact .inl ⟨by omega, h3⟩
    · exact .inr (.inl ⟨by omega, h3⟩)
    · exact .inr (.inr ⟨by omega, h3⟩)
theorem rowT3_one {l : List T3} : ∀ u ∈ rowT3 l, u.oneCell' = true := fun u hu => by
  obtain ⟨j, hj⟩ := List.mem_iff_getElem?.1 hu
  obtain ⟨k, p, f, m, -, h⟩ := rowT3_get l j u hj
  rcases h with ⟨-, rfl⟩ | ⟨-, rfl⟩ | ⟨-, rfl⟩ <;> rfl
theorem rowT3_app (a b : List T3) : rowT3 (a ++ b) = rowT3 a ++ rowT3 b := by simp [rowT3]
theorem RT.news {B : Nat} {A : Option Addr} {n c : Nat} {l : List T3} {W : World} (h : RT B (.slice A n c) l W) : n = l.length ∧ (0 < n → ∃ a, A = some a ∧ a.block < B ∧ ∀ j u, (rowT3 l)[j]? = some u → W.cell? (a.add j) = some u) := by
  obtain ⟨A', c', e, -, h⟩ := h
  simp only [Value.slice.injEq] at e
  obtain ⟨rfl, rfl, rfl⟩ := e
  refine ⟨rfl, fun hp => ?_⟩
  obtain ⟨b, o, rfl, hb, hc⟩ := h hp
  refine ⟨_, rfl, hb, fun j u hj => ?_⟩
  obtain ⟨k, p, f, m, hk, hu⟩ := rowT3_get l j u hj
  obtain ⟨c0, c1, c2⟩ := hc k p f m hk
  rcases hu with ⟨rfl, rfl⟩ | ⟨rfl, rfl⟩ | ⟨rfl, rfl⟩
  · rw [addr_add]; exact c0
  · rw [addr_add]; exact c1
  · rw [addr_add]; exact c2

set_option maxHeartbeats 4000000 in
set_option maxRecDepth 1000000 in
theorem growT_any (n : Nat) (h1 : n ≤ 1000) (w : World) :
    Calls Tryz.prog 64 #[.slice none 0 0, .int .i64 n] w fun e w' => ∃ v, e = .returned v ∧ w'.ownsRow w.heap.size 42 3 v 0 [] ∧ Below w.heap.size w w' := by
  obtain ⟨i0, hi, hz0, hz1, hz2⟩ := info_parts infoTurn
  by_cases h0 : n = 0
  · subst h0
    go_enter Tryz.func64, Tryz.ntmps64
    go_wp2_with fail
    go_ret
    exact ⟨_, rfl, World.ownsRow_nil _ _ _ _, Below.refl _ _⟩
  · have hp : (0 : Int) < (n : Int) := by omega
    have hw : IntKind.i64.wrap (n : Int) = n := IntWalk.i64_in _ (by omega)
    have hrz : ∀ ty, (Builtin.append_ #[22, 3] ty #[.slice none 0 0, .int .i64 n]).run Tryz.prog w = .ok (.slice (some ⟨w.heap.size, 0, none⟩) n (grownCap w n 0 42)) (w.drew.alloc (.cells (#[] ++ Builtin.zeroCells (Value.cells (.agg #[.int .i64 0, .int .i64 0, .int .i64 0])) n ++ Builtin.zeroCells (Value.cells (.agg #[.int .i64 0, .int .i64 0, .int .i64 0])) (grownCap w n 0 42 - n)) 42)) := fun ty => by
      have h := Lib.run_append_grow_zeros w 22 3 ty 42 i0 _ .i64 .i64 Tryz.underlying22 Tryz.underlying3 hi hz0 none 0 0 [] (run_firstCells_none _ _ _ _ _) n (by omega) (by omega) (by omega) (by omega) (by rw [hz2]; omega) (growslice_fits (by omega) (by rw [hz2]; omega))
      simpa using h
    have hGn : n ≤ grownCap w n 0 42 := grownCap_ge w _ _ _
    have hGm : grownCap w n 0 42 ≤ maxLen := grownCap_le_maxLen w n 0 _ (by unfold maxLen; omega)
    obtain ⟨G, hG⟩ : ∃ G, G = grownCap w n 0 42 := ⟨_, rfl⟩
    rw [← hG] at hrz hGn hGm
    have hG63 : G ≤ 9223372036854775807 := by unfold maxLen at hGm; omega
    have hcs : (#[] ++ Builtin.zeroCells (Value.cells (.agg #[.int .i64 0, .int .i64 0, .int .i64 0])) n ++ Builtin.zeroCells (Value.cells (.agg #[.int .i64 0, .int .i64 0, .int .i64 0])) (G - n)).size = G * 3 := by
      have hz3 : (Value.cells (.agg #[.int .i64 0, .int .i64 0, .int .i64 0])).size = 3 := rfl
      simp only [Array.size_append, size_zeroCells, hz3]
      show 0 + n * 3 + (G - n) * 3 = G * 3
      omega
    have HR := Lib.hid hrz
    generalize (#[] ++ Builtin.zeroCells (Value.cells (.agg #[.int .i64 0, .int .i64 0, .int .i64 0])) n ++ Builtin.zeroCells (Value.cells (.agg #[.int .i64 0, .int .i64 0, .int .i64 0])) (G - n)) = cur at *
    clear hrz hG
    go_enter Tryz.func64, Tryz.ntmps64
    go_wp2_with (at_builtin; refine Lib.wpList_append_run _ rfl _ _ _ _ rfl _ _ rfl rfl _ _ (HR.out _) ?_)
    go_ret
    refine ⟨_, rfl, ⟨by simp, .inr ⟨w.heap.size, G, cur, rfl, Nat.le_refl _, ?_, by omega, hGm, hcs, by simp⟩⟩, (Below.refl _ _).drew.alloc (Nat.le_refl _) _⟩
    show (w.alloc (.cells cur 42)).heap[w.heap.size]? = _
    exact World.alloc_heap_new w (.cells cur 42)
end Go.Proofs.YtcdodfehnkgjdaaGreatDoor

/- Contract of slices.Concat at two lists of turns. -/
namespace Go.Proofs.YtcdodfehnkgjdaaGreatDoor
open Go.RowKit

theorem add_block (a : Addr) (j : Nat) : (a.add j).block = a.block := by unfold Addr.add; split <;> rfl

set_option maxHeartbeats 8000000 in
set_option maxRecDepth 1000000 in
theorem concatT_any (g : Nat) (A B : Option Addr) (n c m d : Nat) (xs ys : List T3) (w : World) (hg : g < w.heap.size) (h0 : w.cell? ⟨g, 0, none⟩ = some (.slice A n c)) (h1 : w.cell? ⟨g, 1, none⟩ = some (.slice B m d))
    (hx : RT w.heap.size (.slice A n c) xs w) (hy : RT w.heap.size (.slice B m d) ys w) (hn : n ≤ 100) (hm : m ≤ 100) :
    Calls Tryz.prog 29 #[.slice (some ⟨g, 0, none⟩) 2 2] w fun e w' => ∃ v, e = .returned v ∧ OwnT w.heap.size v (xs ++ ys) w' ∧ Below w.heap.size w w' := by
  obtain ⟨i0, hi, hz0, hz1, hz2⟩ := info_parts infoTurn
  obtain ⟨rfl, ha⟩ := hx.news
  obtain ⟨rfl, hb⟩ := hy.news
  have HA := Lib.hid ha
  have HB := Lib.hid hb
  have G0 := fun W => growT_any (xs.length + ys.length) (by omega) W
  rw [show (((xs.length + ys.length : Nat) : Int)) = (xs.length : Int) + ys.length by omega] at G0
  have G := Lib.hid G0
  clear G0
  have L1 : ∀ W v, Below w.heap.size w W → W.ownsRow w.heap.size 42 3 v 0 [] → ∃ v' W', (Builtin.append_ #[22, 22] 22 #[v, .slice A xs.length c]).run Tryz.prog W = .ok v' W' ∧ W'.ownsRow w.heap.size 42 3 v' xs.length (rowT3 xs) ∧ Below w.heap.size w W' := fun W v hW hO => by
    obtain ⟨v', W', k1, k2, k3, k4⟩ := app_row (P := Tryz.prog) W w.heap.size 22 22 42 i0 (.agg #[.int .i64 0, .int .i64 0, .int .i64 0]) 3 24 Tryz.underlying22 hi hz0 hz1 hz2 rfl (by decide) v 0 [] hO A xs.length c (rowT3 xs) (rowT3_len _) (fun hp => by
      obtain ⟨a, e, l, hc⟩ := HA.out hp
      exact ⟨a, e, fun j u hj => (hW.cell (by rw [add_block]; exact l)).trans (hc j u hj)⟩) rowT3_one (by unfold maxLen; omega) (by omega) hW.size
    rw [Nat.zero_add, List.nil_append] at k2
    exact ⟨v', W', k1, k2, hW.trans ((GrownL.of_row k3).below (fun b hb => by have := World.ownsRow.lt hO b (by simpa using hb); omega) hW.size)⟩
  have L2 : ∀ W v, Below w.heap.size w W → W.ownsRow w.heap.size 42 3 v xs.length (rowT3 xs) → ∃ v' W', (Builtin.append_ #[22, 22] 22 #[v, .slice B ys.length d]).run Tryz.prog W = .ok v' W' ∧ OwnT w.heap.size v' (xs ++ ys) W' ∧ Below w.heap.size w W' := fun W v hW hO => by
    obtain ⟨v', W', k1, k2, k3, k4⟩ := app_row (P := Tryz.prog) W w.heap.size 22 22 42 i0 (.agg #[.int .i64 0, .int .i64 0, .int .i64 0]) 3 24 Tryz.underlying22 hi hz0 hz1 hz2 rfl (by decide) v xs.length (rowT3 xs) hO B ys.length d (rowT3 ys) (rowT3_len _) (fun hp => by
      obtain ⟨a, e, l, hc⟩ := HB.out hp
      exact ⟨a, e, fun j u hj => (hW.cell (by rw [add_block]; exact l)).trans (hc j u hj)⟩) rowT3_one (by unfold maxLen; omega) (by omega) hW.size
    refine ⟨v', W', k1, ?_, hW.trans ((GrownL.of_row k3).below (fun b hb => by have := World.ownsRow.lt hO b (by simpa using hb); omega) hW.size)⟩
    unfold OwnT
    rw [rowT3_app, List.length_append]
    exact k2
  have HL1 := Lib.hid L1
  have HL2 := Lib.hid L2
  have hw1 : IntKind.i64.wrap (xs.length : Int) = xs.length := IntWalk.i64_in _ (by omega)
  have hw2 : IntKind.i64.wrap ((xs.length : Int) + (ys.length : Int)) = (xs.length : Int) + ys.length := IntWalk.i64_in _ (by omega)
  have hw3 : ¬ ((xs.length : Int) < 0) := by omega
  have hw4 : ¬ ((xs.length : Int) + (ys.length : Int) < 0) := by omega
  clear L1 L2 ha hb hx hy
  generalize xs.length = n at *
  generalize ys.length = m at *
  go_enter Tryz.func29, Tryz.ntmps29
  go_wp2_with fail
  refine wp_loop_rounds 3 ?_
  rw [rounds_succ]
  go_wp2_with fail
  rw [rounds_succ]
  go_wp2_with fail
  rw [rounds_succ]
  go_wp2_with fail
  refine (G.out _).mono ?_
  rintro e w1 ⟨v1, rfl, ho, hB⟩
  obtain ⟨v2, w2, r1, o1, b1⟩ := HL1.out w1 v1 hB ho
  obtain ⟨v3, w3, r2, o2, b2⟩ := HL2.out w2 v2 b1 o1
  have R1 := Lib.hid r1
  have R2 := Lib.hid r2
  have F := Lib.hid (And.intro o2 b2)
  have e0 := (hB.cell (p := ⟨g, 0, none⟩) hg).trans h0
  have e1 := (b1.cell (p := ⟨g, 1, none⟩) hg).trans h1
  clear r1 r2 o2 b2 ho hB o1 b1 h0 h1 HL1 HL2 HA HB G
  go_wp2_with fail
  refine wp_loop_rounds 3 ?_
  rw [rounds_succ]
  go_wp2_with (at_builtin; refine Lib.wpList_append_run _ rfl _ _ _ _ rfl _ _ rfl rfl v2 w2 R1.out ?_)
  rw [rounds_succ]
  go_wp2_with (at_builtin; refine Lib.wpList_append_run _ rfl _ _ _ _ rfl _ _ rfl rfl v3 w3 R2.out ?_)
  rw [rounds_succ]
  go_wp2_with fail
  go_ret
  exact ⟨_, rfl, F.out.1, F.out.2⟩
end Go.Proofs.YtcdodfehnkgjdaaGreatDoor

/- Contracts of slices.Grow at nil, and of slices.Concat at two lists: spans. -/
namespace Go.Proofs.YtcdodfehnkgjdaaGreatDoor
open Go.RowKit

/-- A list of spans in a row of its own. -/
def OwnS (base : Nat) (v : Value) (l : List S2) (W : World) : Prop := W.ownsRow base 45 2 v l.length (cells2 l)
theorem OwnS.grown {base : Nat} {v : Value} {l : List S2} {W W' : World} {bs : List Nat} (h : OwnS base v l W) (hg : GrownL bs W W') (hn : ∀ g, v.ownBlock = some g → g ∉ bs) : OwnS base v l W' := ownsRow_grownL h hg hn
theorem OwnS.lt {base : Nat} {v : Value} {l : List S2} {W : World} (h : OwnS base v l W) : ∀ g, v.ownBlock = some g → base ≤ g ∧ g < W.heap.size := World.ownsRow.lt h
theorem OwnS.low {base base' : Nat} {v : Value} {l : List S2} {W : World} (h : OwnS base v l W) (hb : base' ≤ base) : OwnS base' v l W := by
  refine ⟨h.1, ?_⟩
  rcases h.2 with h | ⟨g, cap, cur, e, h1, h2⟩
  · exact .inl h
  · exact .inr ⟨g, cap, cur, e, by omega, h2⟩
theorem OwnS.rs {base : Nat} {v : Value} {l : List S2} {W : World} (h : OwnS base v l W) (hl : l.length ≤ 1000000000000) : RS W.heap.size v l W := rs_of_row h hl
theorem cells2_get : ∀ (l : List S2) (j : Nat) (u : Value), (cells2 l)[j]? = some u → ∃ k p f, l[k]? = some (p, f) ∧ ((j = k * 2 ∧ u = .int .i64 p) ∨ (j = k * 2 + 1 ∧ u = .int .i64 f))
  | [], j, u, h => by simp [cells2] at h
  | (p, f) :: l, 0, u, h => ⟨0, p, f, rfl, .inl ⟨rfl, by simpa [cells2] using h.symm⟩⟩
  | (p, f) :: l, 1, u, h => ⟨0, p, f, rfl, .inr ⟨rfl, by simpa [cells2] using h.symm⟩⟩
  | (p, f) :: l, j + 2, u, h => by
    have e : cells2 ((p, f) :: l) = .int .i64 p :: .int .i64 f :: cells2 l := rfl
    rw [e] at h
    obtain ⟨k, p', f', h1, h2⟩ := cells2_get l j u (by simpa using h)
    refine ⟨k + 1, p', f', by simpa using h1, ?_⟩
    rcases h2 with ⟨h2, h3⟩ | ⟨h2, h3⟩
    · exact .inl ⟨by omega, h3⟩
    · exact .inr ⟨by omega, h3⟩
theorem cells2_one {l : List S2} : ∀ u ∈ cells2 l, u.oneCell' = true := fun u hu => by
  obtain ⟨j, hj⟩ := List.mem_iff_getElem?.1 hu
  obtain ⟨k, p, f, -, h⟩ := cells2_get l j u hj
  rcases h with ⟨-, rfl⟩ | ⟨-, rfl⟩ <;> rfl
theorem cells2_app (a b : List S2) : cells2 (a ++ b) = cells2 a ++ cells2 b := by simp [cells2]
theorem RS.news {B : Nat} {A : Option Addr} {n c : Nat} {l : List S2} {W : World} (h : RS B (.slice A n c) l W) : n = l.length ∧ (0 < n → ∃ a, A = some a ∧ a.block < B ∧ ∀ j u, (cells2 l)[j]? = some u → W.cell? (a.add j) = some u) := by
  obtain ⟨A', c', e, -, h⟩ := h
  simp only [Value.slice.injEq] at e
  obtain ⟨rfl, rfl, rfl⟩ := e
  refine ⟨rfl, fun hp => ?_⟩
  obtain ⟨b, o, rfl, hb, hc⟩ := h hp
  refine ⟨_, rfl, hb, fun j u hj => ?_⟩
  obtain ⟨k, p, f, hk, hu⟩ := cells2_get l j u hj
  obtain ⟨c0, c1⟩ := hc k p f hk
  rcases hu with ⟨rfl, rfl⟩ | ⟨rfl, rfl⟩
  · rw [addr_add]; exact c0
  · rw [addr_add]; exact c1

set_option maxHeartbeats 4000000 in
set_option maxRecDepth 1000000 in
theorem growS_any (n : Nat) (h1 : n ≤ 1000) (w : World) :
    Calls Tryz.prog 68 #[.slice none 0 0, .int .i64 n] w fun e w' => ∃ v, e = .returned v ∧ w'.ownsRow w.heap.size 45 2 v 0 [] ∧ Below w.heap.size w w' := by
  obtain ⟨i0, hi, hz0, hz1, hz2⟩ := info_parts infoSpan
  by_cases h0 : n = 0
  · subst h0
    go_enter Tryz.func68, Tryz.ntmps68
    go_wp2_with fail
    go_ret
    exact ⟨_, rfl, World.ownsRow_nil _ _ _ _, Below.refl _ _⟩
  · have hp : (0 : Int) < (n : Int) := by omega
    have hw : IntKind.i64.wrap (n : Int) = n := IntWalk.i64_in _ (by omega)
    have hrz : ∀ ty, (Builtin.append_ #[23, 3] ty #[.slice none 0 0, .int .i64 n]).run Tryz.prog w = .ok (.slice (some ⟨w.heap.size, 0, none⟩) n (grownCap w n 0 45)) (w.drew.alloc (.cells (#[] ++ Builtin.zeroCells (Value.cells (.agg #[.int .i64 0, .int .i64 0])) n ++ Builtin.zeroCells (Value.cells (.agg #[.int .i64 0, .int .i64 0])) (grownCap w n 0 45 - n)) 45)) := fun ty => by
      have h := Lib.run_append_grow_zeros w 23 3 ty 45 i0 _ .i64 .i64 Tryz.underlying23 Tryz.underlying3 hi hz0 none 0 0 [] (run_firstCells_none _ _ _ _ _) n (by omega) (by omega) (by omega) (by omega) (by rw [hz2]; omega) (growslice_fits (by omega) (by rw [hz2]; omega))
      simpa using h
    have hGn : n ≤ grownCap w n 0 45 := grownCap_ge w _ _ _
    have hGm : grownCap w n 0 45 ≤ maxLen := grownCap_le_maxLen w n 0 _ (by unfold maxLen; omega)
    obtain ⟨G, hG⟩ : ∃ G, G = grownCap w n 0 45 := ⟨_, rfl⟩
    rw [← hG] at hrz hGn hGm
    have hG63 : G ≤ 9223372036854775807 := by unfold maxLen at hGm; omega
    have hcs : (#[] ++ Builtin.zeroCells (Value.cells (.agg #[.int .i64 0, .int .i64 0])) n ++ Builtin.zeroCells (Value.cells (.agg #[.int .i64 0, .int .i64 0])) (G - n)).size = G * 2 := by
      have hz3 : (Value.cells (.agg #[.int .i64 0, .int .i64 0])).size = 2 := rfl
      simp only [Array.size_append, size_zeroCells, hz3]
      show 0 + n * 2 + (G - n) * 2 = G * 2
      omega
    have HR := Lib.hid hrz
    generalize (#[] ++ Builtin.zeroCells (Value.cells (.agg #[.int .i64 0, .int .i64 0])) n ++ Builtin.zeroCells (Value.cells (.agg #[.int .i64 0, .int .i64 0])) (G - n)) = cur at *
    clear hrz hG
    go_enter Tryz.func68, Tryz.ntmps68
    go_wp2_with (at_builtin; refine Lib.wpList_append_run _ rfl _ _ _ _ rfl _ _ rfl rfl _ _ (HR.out _) ?_)
    go_ret
    refine ⟨_, rfl, ⟨by simp, .inr ⟨w.heap.size, G, cur, rfl, Nat.le_refl _, ?_, by omega, hGm, hcs, by simp⟩⟩, (Below.refl _ _).drew.alloc (Nat.le_refl _) _⟩
    show (w.alloc (.cells cur 45)).heap[w.heap.size]? = _
    exact World.alloc_heap_new w (.cells cur 45)
set_option maxHeartbeats 8000000 in
set_option maxRecDepth 1000000 in
theorem concatS_any (g : Nat) (A B : Option Addr) (n c m d : Nat) (xs ys : List S2) (w : World) (hg : g < w.heap.size) (h0 : w.cell? ⟨g, 0, none⟩ = some (.slice A n c)) (h1 : w.cell? ⟨g, 1, none⟩ = some (.slice B m d))
    (hx : RS w.heap.size (.slice A n c) xs w) (hy : RS w.heap.size (.slice B m d) ys w) (hn : n ≤ 100) (hm : m ≤ 100) :
    Calls Tryz.prog 31 #[.slice (some ⟨g, 0, none⟩) 2 2] w fun e w' => ∃ v, e = .returned v ∧ OwnS w.heap.size v (xs ++ ys) w' ∧ Below w.heap.size w w' := by
  obtain ⟨i0, hi, hz0, hz1, hz2⟩ := info_parts infoSpan
  obtain ⟨rfl, ha⟩ := hx.news
  obtain ⟨rfl, hb⟩ := hy.news
  have HA := Lib.hid ha
  have HB := Lib.hid hb
  have G0 := fun W => growS_any (xs.length + ys.length) (by omega) W
  rw [show (((xs.length + ys.length : Nat) : Int)) = (xs.length : Int) + ys.length by omega] at G0
  have G := Lib.hid G0
  clear G0
  have L1 : ∀ W v, Below w.heap.size w W → W.ownsRow w.heap.size 45 2 v 0 [] → ∃ v' W', (Builtin.append_ #[23, 23] 23 #[v, .slice A xs.length c]).run Tryz.prog W = .ok v' W' ∧ W'.ownsRow w.heap.size 45 2 v' xs.length (cells2 xs) ∧ Below w.heap.size w W' := fun W v hW hO => by
    obtain ⟨v', W', k1, k2, k3, k4⟩ := app_row (P := Tryz.prog) W w.heap.size 23 23 45 i0 (.agg #[.int .i64 0, .int .i64 0]) 2 16 Tryz.underlying23 hi hz0 hz1 hz2 rfl (by decide) v 0 [] hO A xs.length c (cells2 xs) (cells2_len _) (fun hp => by
      obtain ⟨a, e, l, hc⟩ := HA.out hp
      exact ⟨a, e, fun j u hj => (hW.cell (by rw [add_block]; exact l)).trans (hc j u hj)⟩) cells2_one (by unfold maxLen; omega) (by omega) hW.size
    rw [Nat.zero_add, List.nil_append] at k2
    exact ⟨v', W', k1, k2, hW.trans ((GrownL.of_row k3).below (fun b hb => by have := World.ownsRow.lt hO b (by simpa using hb); omega) hW.size)⟩
  have L2 : ∀ W v, Below w.heap.size w W → W.ownsRow w.heap.size 45 2 v xs.length (cells2 xs) → ∃ v' W', (Builtin.append_ #[23, 23] 23 #[v, .slice B ys.length d]).run Tryz.prog W = .ok v' W' ∧ OwnS w.heap.size v' (xs ++ ys) W' ∧ Below w.heap.size w W' := fun W v hW hO => by
    obtain ⟨v', W', k1, k2, k3, k4⟩ := app_row (P := Tryz.prog) W w.heap.size 23 23 45 i0 (.agg #[.int .i64 0, .int .i64 0]) 2 16 Tryz.underlying23 hi hz0 hz1 hz2 rfl (by decide) v xs.length (cells2 xs) hO B ys.length d (cells2 ys) (cells2_len _) (fun hp => by
      obtain ⟨a, e, l, hc⟩ := HB.out hp
      exact ⟨a, e, fun j u hj => (hW.cell (by rw [add_block]; exact l)).trans (hc j u hj)⟩) cells2_one (by unfold maxLen; omega) (by omega) hW.size
    refine ⟨v', W', k1, ?_, hW.trans ((GrownL.of_row k3).below (fun b hb => by have := World.ownsRow.lt hO b (by simpa using hb); omega) hW.size)⟩
    unfold OwnS
    rw [cells2_app, List.length_append]
    exact k2
  have HL1 := Lib.hid L1
  have HL2 := Lib.hid L2
  have hw1 : IntKind.i64.wrap (xs.length : Int) = xs.length := IntWalk.i64_in _ (by omega)
  have hw2 : IntKind.i64.wrap ((xs.length : Int) + (ys.length : Int)) = (xs.length : Int) + ys.length := IntWalk.i64_in _ (by omega)
  have hw3 : ¬ ((xs.length : Int) < 0) := by omega
  have hw4 : ¬ ((xs.length : Int) + (ys.length : Int) < 0) := by omega
  clear L1 L2 ha hb hx hy
  generalize xs.length = n at *
  generalize ys.length = m at *
  go_enter Tryz.func31, Tryz.ntmps31
  go_wp2_with fail
  refine wp_loop_rounds 3 ?_
  rw [rounds_succ]
  go_wp2_with fail
  rw [rounds_succ]
  go_wp2_with fail
  rw [rounds_succ]
  go_wp2_with fail
  refine (G.out _).mono ?_
  rintro e w1 ⟨v1, rfl, ho, hB⟩
  obtain ⟨v2, w2, r1, o1, b1⟩ := HL1.out w1 v1 hB ho
  obtain ⟨v3, w3, r2, o2, b2⟩ := HL2.out w2 v2 b1 o1
  have R1 := Lib.hid r1
  have R2 := Lib.hid r2
  have F := Lib.hid (And.intro o2 b2)
  have e0 := (hB.cell (p := ⟨g, 0, none⟩) hg).trans h0
  have e1 := (b1.cell (p := ⟨g, 1, none⟩) hg).trans h1
  clear r1 r2 o2 b2 ho hB o1 b1 h0 h1 HL1 HL2 HA HB G
  go_wp2_with fail
  refine wp_loop_rounds 3 ?_
  rw [rounds_succ]
  go_wp2_with (at_builtin; refine Lib.wpList_append_run _ rfl _ _ _ _ rfl _ _ rfl rfl v2 w2 R1.out ?_)
  rw [rounds_succ]
  go_wp2_with (at_builtin; refine Lib.wpList_append_run _ rfl _ _ _ _ rfl _ _ rfl rfl v3 w3 R2.out ?_)
  rw [rounds_succ]
  go_wp2_with fail
  go_ret
  exact ⟨_, rfl, F.out.1, F.out.2⟩
end Go.Proofs.YtcdodfehnkgjdaaGreatDoor

/- Contracts of slices.Clone at turns, and of Shift. -/
namespace Go.Proofs.YtcdodfehnkgjdaaGreatDoor
open Go.RowKit

set_option maxHeartbeats 8000000 in
set_option maxRecDepth 1000000 in
theorem cloneT_any (v : Value) (xs : List T3) (w : World) (hx : RT w.heap.size v xs w) (hn : xs.length ≤ 100) :
    Calls Tryz.prog 35 #[v] w fun e w' => ∃ v', e = .returned v' ∧ OwnT w.heap.size v' xs w' ∧ Below w.heap.size w w' := by
  obtain ⟨i0, hi, hz0, hz1, hz2⟩ := info_parts infoTurn
  obtain ⟨A, c, rfl, -⟩ := id hx
  obtain ⟨-, ha⟩ := hx.news
  have HA := Lib.hid ha
  have hq : ∀ W n c', (binOp .eql 22 (.slice A n c') (.slice none 0 0)).run Tryz.prog W = .ok (.bool A.isNone) W := fun W n c' => by simpa using Lib.run_eql_slice_nil W 22 42 A n c' 0 0 Tryz.underlying22
  rcases A with _ | ⟨b, o, q⟩
  · have h0 : xs = [] := by
      rcases xs with _ | ⟨x, xs⟩
      · rfl
      · obtain ⟨a, e, _⟩ := ha (by simp)
        cases e
    subst h0
    clear ha HA hx
    go_enter Tryz.func35, Tryz.ntmps35
    go_wp2_with fail
    go_ret
    exact ⟨_, rfl, World.ownsRow_nil _ _ _ _, Below.refl _ _⟩
  · have hx' : ∀ W, Below w.heap.size w W → W.ownsRow w.heap.size 42 3 (.slice (some ⟨w.heap.size, 0, none⟩) 0 0) 0 [] → ∃ v' W', (Builtin.append_ #[22, 22] 22 #[.slice (some ⟨w.heap.size, 0, none⟩) 0 0, .slice (some ⟨b, o, q⟩) xs.length c]).run Tryz.prog W = .ok v' W' ∧ OwnT w.heap.size v' xs W' ∧ Below w.heap.size w W' := fun W hW hO => by
      obtain ⟨v', W', k1, k2, k3, k4⟩ := app_row (P := Tryz.prog) W w.heap.size 22 22 42 i0 (.agg #[.int .i64 0, .int .i64 0, .int .i64 0]) 3 24 Tryz.underlying22 hi hz0 hz1 hz2 rfl (by decide) _ 0 [] hO (some ⟨b, o, q⟩) xs.length c (rowT3 xs) (rowT3_len _) (fun hp => by
        obtain ⟨a, e, l, hc⟩ := HA.out hp
        exact ⟨a, e, fun j u hj => (hW.cell (by rw [add_block]; exact l)).trans (hc j u hj)⟩) rowT3_one (by unfold maxLen; omega) (by omega) hW.size
      rw [Nat.zero_add, List.nil_append] at k2
      exact ⟨v', W', k1, k2, hW.trans ((GrownL.of_row k3).below (fun b hb => by have := World.ownsRow.lt hO b (by simpa using hb); omega) hW.size)⟩
    have HL := Lib.hid hx'
    clear ha HA hx hx'
    generalize xs.length = n at *
    obtain ⟨v2, w2, r2, o2, b2⟩ := HL.out (w.alloc (.cells #[] 42)) ((Below.refl _ _).alloc (Nat.le_refl _) _) ⟨by simp, .inr ⟨w.heap.size, 0, #[], rfl, Nat.le_refl _, World.alloc_heap_new _ _, Nat.le_refl _, by unfold maxLen; omega, rfl, rfl⟩⟩
    have R2 := Lib.hid r2
    have F := Lib.hid (And.intro o2 b2)
    clear HL r2 o2 b2
    go_enter Tryz.func35, Tryz.ntmps35
    go_wp2_with (at_builtin; refine Lib.wpList_append_run _ rfl _ _ _ _ rfl _ _ rfl rfl v2 w2 R2.out ?_)
    go_ret
    exact ⟨_, rfl, F.out.1, F.out.2⟩

/-- One turn of a list is written over. -/
theorem RT.set {B g n c k : Nat} {l : List T3} {p f m f' : Int} {W : World} (h : RT B (.slice (some ⟨g, 0, none⟩) n c) l W) (hk : l[k]? = some (p, f, m)) : RT B (.slice (some ⟨g, 0, none⟩) n c) (l.set k (p, f', m)) (W.setCell ⟨g, k * 3 + 1, none⟩ (.int .i64 f')) := by
  obtain ⟨A, c', e, hl, hc⟩ := h
  have hkl := (List.getElem?_eq_some_iff.1 hk).1
  refine ⟨A, c', by rw [List.length_set]; exact e, by rw [List.length_set]; exact hl, fun hp => ?_⟩
  obtain ⟨b, o, e2, hb, hcs⟩ := hc (by omega)
  rw [e2] at e
  simp only [Value.slice.injEq, Option.some.injEq, Addr.mk.injEq] at e
  obtain ⟨⟨rfl, rfl, -⟩, -⟩ := e
  refine ⟨g, 0, e2, hb, fun j p' f2 m' hj => ?_⟩
  have oth : ∀ i v, i ≠ k * 3 + 1 → W.cell? ⟨g, i, none⟩ = some v → (W.setCell ⟨g, k * 3 + 1, none⟩ (.int .i64 f')).cell? ⟨g, i, none⟩ = some v := fun i v hi hv => by
    rw [World.cell?_setCell_other _ _ _ _ (by first | (simp; done) | (simp; omega) | (simp [hi]))]
    exact hv
  simp only [Nat.zero_add] at hcs ⊢
  by_cases ej : j = k
  · subst ej
    rw [List.getElem?_set_self hkl] at hj
    simp only [Option.some.injEq, Prod.mk.injEq] at hj
    obtain ⟨rfl, rfl, rfl⟩ := hj
    obtain ⟨a0, a1, a2⟩ := hcs j p f m hk
    exact ⟨oth _ _ (by omega) a0, World.cell?_setCell_same' _ _ _ (by rw [a1]; rfl), oth _ _ (by omega) a2⟩
  · rw [List.getElem?_set_ne (by omega)] at hj
    obtain ⟨a0, a1, a2⟩ := hcs j p' f2 m' hj
    exact ⟨oth _ _ (by omega) a0, oth _ _ (by omega) a1, oth _ _ (by omega) a2⟩
theorem RT.mono {B B' : Nat} {v : Value} {l : List T3} {W : World} (h : RT B v l W) (hb : B ≤ B') : RT B' v l W := by
  obtain ⟨A, c, e, hl, hc⟩ := h
  exact ⟨A, c, e, hl, fun hp => by obtain ⟨b, o, e2, hb2, k⟩ := hc hp; exact ⟨b, o, e2, by omega, k⟩⟩
theorem RT.grown_ {v : Value} {l : List T3} {W W' : World} {bs : List Nat} (h : RT W.heap.size v l W) (hg : GrownL bs W W') (hn : ∀ g, v.ownBlock = some g → g ∉ bs) : RT W'.heap.size v l W' := by
  obtain ⟨A, c, e, hl, hc⟩ := h
  refine ⟨A, c, e, hl, fun hp => ?_⟩
  obtain ⟨b, o, rfl, hb, k⟩ := hc hp
  subst e
  have hnb : b ∉ bs := hn b rfl
  refine ⟨b, o, rfl, by have := hg.size; omega, fun j p f m hj => ?_⟩
  obtain ⟨a0, a1, a2⟩ := k j p f m hj
  exact ⟨hg.cell a0 hnb, hg.cell a1 hnb, hg.cell a2 hnb⟩
/-- The first turns come later, the others not yet. -/
def partL (by_ : Int) (ts : List T3) (k : Nat) : List T3 := (ts.take k).map (laterT by_) ++ ts.drop k
theorem partL_len (by_ : Int) (ts : List T3) (k : Nat) : (partL by_ ts k).length = ts.length := by simp [partL]; omega
theorem partL_at (by_ : Int) {ts : List T3} {k : Nat} {t : T3} (h : ts[k]? = some t) : (partL by_ ts k)[k]? = some t := by
  have hk := (List.getElem?_eq_some_iff.1 h).1
  unfold partL
  rw [List.getElem?_append_right (by simp; omega)]
  simp [Nat.min_eq_left (Nat.le_of_lt hk), h]
theorem partL_succ (by_ : Int) {ts : List T3} {k : Nat} {t : T3} (h : ts[k]? = some t) : (partL by_ ts k).set k (laterT by_ t) = partL by_ ts (k + 1) := by
  obtain ⟨hk, rfl⟩ := List.getElem?_eq_some_iff.1 h
  unfold partL
  have e : k - ((ts.take k).map (laterT by_)).length = 0 := by simp; omega
  rw [List.set_append_right _ _ (by simp; omega), e, List.drop_eq_getElem_cons hk, List.take_succ_eq_append_getElem hk, List.set_cons_zero, List.map_append]
  simp
theorem partL_end (by_ : Int) (ts : List T3) : partL by_ ts ts.length = ts.map (laterT by_) := by simp [partL]

/-- What Shift returns. -/
def ShiftIs (ts : List T3) (ss : List S2) (by_ c : Int) (l : List T3) (d : Int) : Prop :=
  (c ≠ 0 ∧ l = [] ∧ d = c) ∨ (c = 0 ∧ (ss ≠ [] ∨ by_ < -1048576 ∨ 1048576 < by_) ∧ l = [] ∧ d = 1) ∨ (c = 0 ∧ ss = [] ∧ -1048576 ≤ by_ ∧ by_ ≤ 1048576 ∧ l = ts.map (laterT by_) ∧ d = 0)
theorem ShiftIs.unique {ts : List T3} {ss : List S2} {by_ c d d' : Int} {l l' : List T3} (h : ShiftIs ts ss by_ c l d) (h' : ShiftIs ts ss by_ c l' d') : l = l' ∧ d = d' := by
  rcases h with ⟨a, rfl, rfl⟩ | ⟨a, b, rfl, rfl⟩ | ⟨a, b, b1, b2, rfl, rfl⟩ <;> rcases h' with ⟨x, rfl, rfl⟩ | ⟨x, y, rfl, rfl⟩ | ⟨x, y, y1, y2, rfl, rfl⟩ <;> first | exact ⟨rfl, rfl⟩ | omega | (exfalso; rcases b with b | b | b; exact b ‹_›; omega; omega) | (exfalso; rcases y with y | y | y; exact y ‹_›; omega; omega)
theorem ShiftIs.exists (ts : List T3) (ss : List S2) (by_ c : Int) : ∃ l d, ShiftIs ts ss by_ c l d := by
  by_cases h0 : c = 0
  · by_cases h1 : ss = [] ∧ -1048576 ≤ by_ ∧ by_ ≤ 1048576
    · exact ⟨_, _, .inr (.inr ⟨h0, h1.1, h1.2.1, h1.2.2, rfl, rfl⟩)⟩
    · refine ⟨_, _, .inr (.inl ⟨h0, ?_, rfl, rfl⟩)⟩
      by_cases h2 : ss = []
      · right
        by_cases h3 : by_ < -1048576
        · exact .inl h3
        · exact .inr (by have : ¬ (by_ ≤ 1048576) := fun h => h1 ⟨h2, by omega, h⟩; omega)
      · exact .inl h2
  · exact ⟨_, _, .inl ⟨h0, rfl, rfl⟩⟩
def ShiftPost (ts : List T3) (ss : List S2) (by_ c : Int) (w : World) (e : Ending) (w' : World) : Prop :=
  ∃ v l d, e = .returned (.tuple #[.agg #[v, .slice none 0 0], .int .i64 d]) ∧ RT w'.heap.size v l w' ∧ Below w.heap.size w w' ∧ ShiftIs ts ss by_ c l d
end Go.Proofs.YtcdodfehnkgjdaaGreatDoor

/- Contract of Shift. -/
namespace Go.Proofs.YtcdodfehnkgjdaaGreatDoor
open Go.RowKit

set_option maxHeartbeats 8000000 in
set_option maxRecDepth 1000000 in
theorem shift_err (A A' : Option Addr) (m ca m' ca' : Nat) (ts : List T3) (ss : List S2) (by_ c : Int) (w : World) (h : RM w.heap.size (.agg #[.slice A m ca, .slice A' m' ca']) ts ss w) (hc : CheckIs ts ss c) (h0 : c ≠ 0) :
    Calls Tryz.prog 8 #[.agg #[.slice A m ca, .slice A' m' ca'], .int .i64 by_] w (ShiftPost ts ss by_ c w) := by
  have C := Lib.hid fun W (S : NSd w (.slice A m ca) (.slice A' m' ca') W) => check_rm (h.up S.siz S.bel) hc
  have HP : Hid (ShiftIs ts ss by_ c [] c) := Lib.hid (.inl ⟨h0, rfl, rfl⟩)
  have S0 := Lib.hid (FwX.new w (.slice A m ca) (.slice A' m' ca'))
  have hb0 : (c != 0) = true := by rw [bne_iff_ne]; exact h0
  clear h hc h0
  go_enter Tryz.func8, Tryz.ntmps8
  go_wp2_with fail
  refine (C.out _ S0.out.ns).mono ?_
  rintro e w1 ⟨rfl, h1⟩
  have S := Lib.hid (S0.out.below h1)
  clear h1 S0
  obtain ⟨x0, x1, f0, f1⟩ := S.out.res
  go_wp2_with fail
  refine bodyPost_ret (v := .tuple #[.agg #[.slice none 0 0, .slice none 0 0], .int .i64 c]) ?_ rfl ?_
  · have q := S.out.setres (.slice none 0 0) (.slice none 0 0)
    simp [results, Tryz.results8, go_sem, q.1, q.2]
  · exact ⟨_, [], c, rfl, rt_nil _ _, S.out.setbel _ _, HP.out⟩

set_option maxHeartbeats 8000000 in
set_option maxRecDepth 1000000 in
theorem shift_arg (A A' : Option Addr) (m ca m' ca' : Nat) (ts : List T3) (ss : List S2) (by_ : Int) (w : World) (h : RM w.heap.size (.agg #[.slice A m ca, .slice A' m' ca']) ts ss w) (hc : CheckIs ts ss 0) (h0 : ss ≠ [] ∨ by_ < -1048576 ∨ 1048576 < by_) :
    Calls Tryz.prog 8 #[.agg #[.slice A m ca, .slice A' m' ca'], .int .i64 by_] w (ShiftPost ts ss by_ 0 w) := by
  have C := Lib.hid fun W (S : NSd w (.slice A m ca) (.slice A' m' ca') W) => check_rm (h.up S.siz S.bel) hc
  have HP : Hid (ShiftIs ts ss by_ 0 [] 1) := Lib.hid (.inr (.inl ⟨rfl, h0, rfl, rfl⟩))
  have S0 := Lib.hid (FwX.new w (.slice A m ca) (.slice A' m' ca'))
  have hm : m' = ss.length := by
    obtain ⟨_, _, _, _, _, _, e, _, h2⟩ := h
    simp at e
    obtain ⟨_, e2⟩ := e
    obtain ⟨_, _, e3, _⟩ := h2
    simp at e3
    omega
  have hcase : (0 : Int) < (m' : Int) ∨ ((m' : Int) ≤ 0 ∧ by_ < -1048576) ∨ ((m' : Int) ≤ 0 ∧ -1048576 ≤ by_ ∧ 1048576 < by_) := by
    have : ss ≠ [] → 0 < ss.length := List.length_pos_iff.2
    rcases h0 with h0 | h0 | h0
    · have := this h0; omega
    · omega
    · omega
  clear h hc h0 hm
  rcases hcase with hk | ⟨hk, hk2⟩ | ⟨hk, hk2, hk3⟩
  all_goals
    go_enter Tryz.func8, Tryz.ntmps8
    go_wp2_with fail
    refine (C.out _ S0.out.ns).mono ?_
    rintro e w1 ⟨rfl, h1⟩
    have S := Lib.hid (S0.out.below h1)
    clear h1 S0
    obtain ⟨x0, x1, f0, f1⟩ := S.out.res
    obtain ⟨y0, y1, y2, _⟩ := S.out.ns.out
    go_wp2_with fail
    refine bodyPost_ret (v := .tuple #[.agg #[.slice none 0 0, .slice none 0 0], .int .i64 1]) ?_ rfl ?_
    · have q := S.out.setres (.slice none 0 0) (.slice none 0 0)
      simp [results, Tryz.results8, go_sem, q.1, q.2]
    · exact ⟨_, [], 1, rfl, rt_nil _ _, S.out.setbel _ _, HP.out⟩
end Go.Proofs.YtcdodfehnkgjdaaGreatDoor

/- Contract of Shift, where there is no error; and whole. -/
namespace Go.Proofs.YtcdodfehnkgjdaaGreatDoor
open Go.RowKit

/-- What Shift keeps between two turns. -/
def ShL (w : World) (v0 v1 v : Value) (l : List T3) (W : World) : Prop :=
  RT W.heap.size v l W ∧ FwX w v0 v1 W ∧ ∀ g, v.ownBlock = some g → w.heap.size + 2 ≤ g ∧ ∀ j, W.frozen? ⟨g, j, none⟩ = false
section
variable {w W : World} {v0 v1 v : Value} {l : List T3}
theorem ShL.rt (h : ShL w v0 v1 v l W) : RT W.heap.size v l W := h.1
theorem ShL.fw (h : ShL w v0 v1 v l W) : FwX w v0 v1 W := h.2.1
theorem ShL.fz (h : ShL w v0 v1 v l W) : ∀ g, v.ownBlock = some g → w.heap.size + 2 ≤ g ∧ ∀ j, W.frozen? ⟨g, j, none⟩ = false := h.2.2
theorem OwnT.frozen {base : Nat} (h : OwnT base v l W) (g : Nat) (hg : v.ownBlock = some g) (j : Nat) : W.frozen? ⟨g, j, none⟩ = false := by
  rcases h.2 with ⟨rfl, _⟩ | ⟨g', cap, cur, rfl, _, hb, _⟩
  · cases hg
  · cases hg
    simp [World.frozen?, hb]
end
theorem ShL.step {w W : World} {v0 v1 : Value} {g n c k : Nat} {by_ : Int} {ts : List T3} {t : T3} {o : Obj} (h : ShL w v0 v1 (.slice (some ⟨g, 0, none⟩) n c) (partL by_ ts k) W) (hk : ts[k]? = some t) :
    ShL w v0 v1 (.slice (some ⟨g, 0, none⟩) n c) (partL by_ ts (k + 1)) ((W.alloc o).setCell ⟨g, k * 3 + 1, none⟩ (.int .i64 ((t.2.1 + by_) % t.1))) := by
  obtain ⟨p, f, m⟩ := t
  obtain ⟨a1, a2⟩ := h.fz g rfl
  have hb : Below W.heap.size W (W.alloc o) := (Below.refl _ _).alloc (Nat.le_refl _) _
  have hg : GrownL [g] W ((W.alloc o).setCell ⟨g, k * 3 + 1, none⟩ (.int .i64 ((f + by_) % p))) := (GrownL.of_below hb).trans (GrownL.set _ _ _ (by simp))
  refine ⟨?_, h.fw.grown hg (fun b hbm => by simp at hbm; omega), fun g' hg' => ?_⟩
  · rw [← partL_succ by_ hk]
    exact ((h.rt.below hb).set (f' := (f + by_) % p) (partL_at by_ hk)).mono (by simp)
  · have : g' = g := by
      have : some g = some g' := hg'
      simpa using this.symm
    subst this
    refine ⟨a1, fun j => ?_⟩
    rw [World.frozen?_setCell]
    obtain ⟨A, c', e, _, hc⟩ := h.rt
    have hn : 0 < (partL by_ ts k).length := by rw [partL_len]; have := (List.getElem?_eq_some_iff.1 hk).1; omega
    obtain ⟨b, o', e2, hlt, _⟩ := hc hn
    rw [e2] at e
    simp only [Value.slice.injEq, Option.some.injEq, Addr.mk.injEq] at e
    obtain ⟨⟨rfl, -, -⟩, -⟩ := e
    exact (World.frozen?_of_block (a := ⟨g', j, none⟩) (hb.block _ hlt)).trans (a2 j)

set_option maxHeartbeats 8000000 in
set_option maxRecDepth 1000000 in
theorem shift_ok (A A' : Option Addr) (m ca m' ca' : Nat) (ts : List T3) (by_ : Int) (w : World) (h : RM w.heap.size (.agg #[.slice A m ca, .slice A' m' ca']) ts [] w) (hc : CheckIs ts [] 0) (h0 : -1048576 ≤ by_) (h1 : by_ ≤ 1048576) :
    Calls Tryz.prog 8 #[.agg #[.slice A m ca, .slice A' m' ca'], .int .i64 by_] w (ShiftPost ts [] by_ 0 w) := by
  obtain ⟨k1, k2, k3⟩ := checkIs_ok hc
  have HOK := Lib.hid k3
  have C := Lib.hid fun W (S : NSd w (.slice A m ca) (.slice A' m' ca') W) => check_rm (h.up S.siz S.bel) hc
  have HP : Hid (ShiftIs ts [] by_ 0 (ts.map (laterT by_)) 0) := Lib.hid (.inr (.inr ⟨rfl, rfl, h0, h1, rfl, rfl⟩))
  have S0 := Lib.hid (FwX.new w (.slice A m ca) (.slice A' m' ca'))
  have hm : m' = 0 := by
    obtain ⟨_, _, _, _, _, _, e, _, h2⟩ := h
    simp at e
    obtain ⟨_, e2⟩ := e
    obtain ⟨_, _, e3, _⟩ := h2
    simp at e3
    omega
  subst hm
  have CL := Lib.hid fun W (S : NSd w (.slice A m ca) (.slice A' 0 ca') W) => cloneT_any (.slice A m ca) ts W (by
    obtain ⟨_, _, _, _, _, _, e, h1, _⟩ := h.up S.siz S.bel
    simp only [Value.agg.injEq, Array.mk.injEq, List.cons.injEq] at e
    rw [e.1]
    exact h1) (by omega)
  clear h hc k3
  go_enter Tryz.func8, Tryz.ntmps8
  go_wp2_with fail
  refine (C.out _ S0.out.ns).mono ?_
  rintro e w1 ⟨rfl, h1'⟩
  have S := Lib.hid (S0.out.below h1')
  clear h1' S0
  obtain ⟨y0, y1, y2, _⟩ := S.out.ns.out
  go_wp2_with fail
  refine (CL.out _ S.out.ns).mono ?_
  rintro e w2 ⟨v', rfl, ho, h2⟩
  have hz := S.out.siz
  have S2 : Hid (ShL w (.slice A m ca) (.slice A' 0 ca') v' (partL by_ ts 0) w2) := Lib.hid ⟨(show partL by_ ts 0 = ts by simp [partL]) ▸ ho.rt (by omega), S.out.below h2, fun g hg => ⟨by have := (ho.lt g hg).1; omega, ho.frozen g hg⟩⟩
  obtain ⟨Av, cv, rfl, hv⟩ := ho.form
  have HV := Lib.hid hv
  clear h2 S ho C CL y0 y1 y2 hz hv
  go_wp2_with fail
  go_loopw [34] (fun u wr => ∃ k : Nat, u = .int .i64 k ∧ k ≤ ts.length ∧ ShL w (.slice A m ca) (.slice A' 0 ca') (.slice Av ts.length cv) (partL by_ ts k) wr) (fun u _ => ts.length - (intOf u).toNat)
  case atStart => exact ⟨0, rfl, by omega, S2.out⟩
  case round =>
    obtain ⟨k, rfl, hk, hS⟩ := hrel
    have S := Lib.hid hS
    clear hS S2
    by_cases hkl : k < ts.length
    · obtain ⟨g, rfl⟩ := HV.out (by omega)
      have hk0 : (k : Int) < (ts.length : Int) := by omega
      obtain ⟨⟨p, f, l⟩, ht⟩ : ∃ t, ts[k]? = some t := ⟨_, List.getElem?_eq_getElem hkl⟩
      have ⟨q1, q2, q3, q4, q5, q6⟩ := HOK.out.1 _ (List.mem_of_getElem? ht)
      simp only at q1 q2 q3 q4 q5 q6
      have hcs : wr.cell? ⟨g, k * 3, none⟩ = some (.int .i64 p) ∧ wr.cell? ⟨g, k * 3 + 1, none⟩ = some (.int .i64 f) ∧ wr.cell? ⟨g, k * 3 + 2, none⟩ = some (.int .i64 l) := by
        obtain ⟨A2, c2, e, _, hc⟩ := S.out.rt
        obtain ⟨b, o, e2, _, hcc⟩ := hc (by rw [partL_len]; omega)
        rw [e2] at e
        simp only [Value.slice.injEq, Option.some.injEq, Addr.mk.injEq] at e
        obtain ⟨⟨rfl, rfl, -⟩, -⟩ := e
        have := hcc k p f l (partL_at by_ ht)
        simpa using this
      obtain ⟨c0, c1, c2⟩ := hcs
      have fz := (S.out.fz g rfl).2 (k * 3 + 1)
      have R := Lib.hid fun W => remainder_any (f + by_) p W (by omega) (by omega) (by omega) (by omega)
      have W1 : IntKind.i64.wrap (f + by_) = f + by_ := IntWalk.i64_in _ (by omega)
      have N := Lib.hid (S.out.step (o := .cells #[.int .i64 p, .int .i64 f, .int .i64 l] 42) ht)
      have hgl : g < wr.heap.size := World.block_lt_of_cell? wr ⟨g, k * 3 + 1, none⟩ c1
      have hb : Below wr.heap.size wr (wr.alloc (.cells #[.int .i64 p, .int .i64 f, .int .i64 l] 42)) := (Below.refl _ _).alloc (Nat.le_refl _) _
      have e1 := (hb.cell (p := ⟨g, k * 3 + 1, none⟩) hgl).trans c1
      have e2 := (World.frozen?_of_block (a := ⟨g, k * 3 + 1, none⟩) (hb.block _ hgl)).trans fz
      clear hb hgl fz
      go_wp2_with (go_at_call 36; refine (R.out _).mono ?_; rintro e w4 ⟨rfl, rfl⟩)
      go_roundw
      case rel => exact ⟨k + 1, by go_num, by omega, N.out⟩
      case measure => show ts.length - ((k : Int) + 1).toNat < ts.length - (k : Int).toNat; omega
    · have hkl' : (ts.length : Int) ≤ (k : Int) := by omega
      have hE : partL by_ ts k = ts.map (laterT by_) := by rw [show k = ts.length by omega, partL_end]
      obtain ⟨x0, x1, f0, f1⟩ := S.out.fw.res
      go_wp2_with fail
      refine bodyPost_ret (v := .tuple #[.agg #[.slice Av ts.length cv, .slice none 0 0], .int .i64 0]) ?_ rfl ?_
      · have q := S.out.fw.setres (.slice Av ts.length cv) (.slice none 0 0)
        simp [results, Tryz.results8, go_sem, q.1, q.2]
      · have hz := S.out.fw.siz
        have gg := (GrownL.set (bs := [w.heap.size + 1]) wr ⟨w.heap.size + 1, 0, none⟩ (.slice Av ts.length cv) (by simp)).trans (GrownL.set (bs := [w.heap.size + 1]) _ ⟨w.heap.size + 1, 1, none⟩ (.slice none 0 0) (by simp))
        refine ⟨.slice Av ts.length cv, ts.map (laterT by_), 0, rfl, ?_, S.out.fw.setbel _ _, HP.out⟩
        rw [← hE]
        exact S.out.rt.grown_ gg (fun b hb hm => by simp at hm; have := (S.out.fz b hb).1; omega)
end Go.Proofs.YtcdodfehnkgjdaaGreatDoor
